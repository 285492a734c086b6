/-
  The walks of SegmentBack and SegmentTold beside what opens a segment.
-/
import Derived.Test.YtdfenlagokndkaaSegM
import Derived.Test.YtdfenlagokndkaaSegN
import Derived.Test.YtdfenlagokndkaaSegO
