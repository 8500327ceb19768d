/-
  Stage 11's functions of the program, gathered: the walks of Merged, Shattered, PrefixOf, PartBytes, LongestPart and SameEvents.
-/
import Derived.Test.YteplmjlllnbiiaaMergeI
import Derived.Test.YteplmjlllnbiiaaShatterI
import Derived.Test.YteplmjlllnbiiaaPrefI
import Derived.Test.YteplmjlllnbiiaaEvSameI
