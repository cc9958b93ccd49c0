/-
  BOTH SIDES of FormatTime in one form (TimeImpl).
-/
import Derived.Test.YtenbplehiaofmaaTimeImpl
