/-
  PLAIN: the tables that are laid (OLaid), under this layer (Q)'s name.
-/
import Derived.Test.YtlfbjgeobibnhaaGreatDoorQZOLaid
