import Derived.Test.YtjemnkijoiehmaaGreatDoorDkFailM
/- Crash and Up of a disk; what awake of layer 11 returns: true. -/
namespace Go.Proofs.YtjemnkijoiehmaaGreatDoor
open Go.RowKit Go.Maps
variable {Xm : Nat → Prop}
attribute [local go_sem] Oper.semAt_some
section
variable {w : World} {B p : Nat} {A : Dk} {mn ms : Option Nat} {lv : Value}
end
def dk2 : Dk := ⟨[([97], [120])], [], 1, true, .slice none 0 0⟩
end Go.Proofs.YtjemnkijoiehmaaGreatDoor
