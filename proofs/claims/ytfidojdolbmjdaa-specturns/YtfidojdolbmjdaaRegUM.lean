import Derived.Test.YtfidojdolbmjdaaRegVM
/- As RegV, where an operation reads a slot that a later one of the region writes. -/
namespace Go.Proofs.Ytfidojdolbmjdaa
open Go Go.RowKit
section
variable {P : Program} {Q : Exit → Act → World → Prop} {md : Region.Mode}
/-- Number s waits for number i, by others too. -/
def waitsB (md : Region.Mode) (all : List Oper) : Nat → Nat → Nat → Bool
  | 0, _, _ => false
  | f + 1, s, i => match all[s]? with
    | some o => o.after.any fun e => Region.binds md e && (e.on == i || waitsB md all f e.on i)
    | none => false
theorem waits_on {all : List Oper} {on : Nat → Prop} (hc : ∀ k o, all[k]? = some o → on k → ∀ m, needs md o m = true → on m) : ∀ (f s i : Nat), waitsB md all f s i = true → on s → on i
  | 0, _, _, h, _ => by cases h
  | f + 1, s, i, h, hs => by
    unfold waitsB at h
    cases ho : all[s]? with
    | none => rw [ho] at h; cases h
    | some o =>
      rw [ho] at h
      obtain ⟨e, he, h2⟩ := Array.any_eq_true'.1 h
      rw [Bool.and_eq_true, Bool.or_eq_true] at h2
      have hm : on e.on := hc s o ho hs e.on (Array.any_eq_true'.2 ⟨e, he, by rw [h2.1]; simp⟩)
      rcases h2.2 with h3 | h3
      · rw [← show e.on = i by simpa using h3]; exact hm
      · exact waits_on hc f e.on i h3 hm
end
end Go.Proofs.Ytfidojdolbmjdaa
