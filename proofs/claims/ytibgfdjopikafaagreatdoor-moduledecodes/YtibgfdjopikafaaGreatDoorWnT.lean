/-
  The contracts of wire.IsName and of provisoref02.IsName together. No Go in it beyond these.
-/
import Derived.Test.YtibgfdjopikafaaGreatDoorNm
import Derived.Test.YtibgfdjopikafaaGreatDoorWn
