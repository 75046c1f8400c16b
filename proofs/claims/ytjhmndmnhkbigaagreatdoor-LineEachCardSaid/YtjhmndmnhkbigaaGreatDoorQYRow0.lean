/-
  Layer 8 in plain words: rows that may be, by their places; cells put over others; that the reference's way comes to the same.
-/
import Derived.Test.YtjhmndmnhkbigaaGreatDoorQYBase0

