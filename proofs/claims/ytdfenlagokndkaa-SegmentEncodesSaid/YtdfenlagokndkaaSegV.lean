/-
  The walk of SegmentEncodes beside what opens a segment.
-/
import Derived.Test.YtdfenlagokndkaaSegU
import Derived.Test.YtdfenlagokndkaaSegP
