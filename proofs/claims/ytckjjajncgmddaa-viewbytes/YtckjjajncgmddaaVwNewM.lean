import Derived.Test.YtckjjajncgmddaaVwMayM
/- A master stands up. -/
namespace Go.Proofs.Ytckjjajncgmddaa
open Go.RowKit Go.Maps
attribute [local go_sem] Oper.semAt_some
def mayN (me all vw nm bi : Int) (n : Nat) : Bool := decide (1 ≤ all) && (decide (all ≤ 7) && (decide (0 ≤ me) && (decide (me < all) && mayI vw nm bi n)))
section
variable {w : World} {me all vw nm bi bv : Int} {base : ByteArray} {ao : Option Addr} {n c : Nat}
end
theorem last_raw {w : World} {p : Nat} {bi : Int} {ao : Option Addr} {n cc : Nat} (c4 : w.cell? ⟨p, 4, none⟩ = some (.int .i64 bi)) (c7 : w.cell? ⟨p, 7, none⟩ = some (.slice ao n cc)) (h0 : 0 ≤ bi) (h1 : bi ≤ 2147483647) (h2 : n ≤ 1000) : Calls Try.prog 50 #[.pointer (some ⟨p, 0, none⟩)] w fun r w' => r = .returned (.int .i64 (bi + n)) ∧ ∃ q, w' = w.drewN q := by
  go_enter Try.func50, Try.ntmps50
  go_wp2
  go_quiet (fail)
  go_wp2
  go_ret
  exact ⟨by go_num, nq, rfl⟩
/-- A master as it stands up. -/
def Nd.born (me all vw nm bi bv : Int) (base : ByteArray) (L : List Ent) : Nd := { me := me, all := all, vw := vw, nm := nm, bi := bi, bv := bv, base := base, log := L, cm := bi, had := bi + L.length, tk := 0, gave := false, wants := fun x => x == me, given := fun _ => none, upTo := fun _ => none }
theorem born_ok {me all vw nm bi bv : Int} {base : ByteArray} {L : List Ent} (h : mayN me all vw nm bi L.length = true) : (Nd.born me all vw nm bi bv base L).ok := by
  simp only [mayN, mayI, Bool.and_eq_true, decide_eq_true_eq, numI_iff] at h
  obtain ⟨h1, h2, h3, h4, h5, h6, h7, h8, h9⟩ := h
  refine ⟨h1, h2, h3, h4, h6.1, h8, h5.2, h7.1, h7.2, h9, Int.le_refl _, ?_, Int.le_refl _⟩
  show bi ≤ bi + (L.length : Int)
  omega
/-- The map of kinds is filled. -/
theorem kinds_made (W : World) (p : Nat) : ∃ w1 w2 w3 w4 w5 w6, (Instr.mapUpdate 88 (.map (some W.heap.size)) (.int .i64 1) (.func (.func 44) #[.pointer (some ⟨p, 0, none⟩)] #[])).run Try.prog (W.alloc (.map #[] 0)) = .ok () w1 ∧ (Instr.mapUpdate 88 (.map (some W.heap.size)) (.int .i64 2) (.func (.func 45) #[.pointer (some ⟨p, 0, none⟩)] #[])).run Try.prog w1 = .ok () w2 ∧ (Instr.mapUpdate 88 (.map (some W.heap.size)) (.int .i64 3) (.func (.func 46) #[.pointer (some ⟨p, 0, none⟩)] #[])).run Try.prog w2 = .ok () w3 ∧ (Instr.mapUpdate 88 (.map (some W.heap.size)) (.int .i64 4) (.func (.func 47) #[.pointer (some ⟨p, 0, none⟩)] #[])).run Try.prog w3 = .ok () w4 ∧ (Instr.mapUpdate 88 (.map (some W.heap.size)) (.int .i64 5) (.func (.func 48) #[.pointer (some ⟨p, 0, none⟩)] #[])).run Try.prog w4 = .ok () w5 ∧ (Instr.mapUpdate 88 (.map (some W.heap.size)) (.int .i64 6) (.func (.func 49) #[.pointer (some ⟨p, 0, none⟩)] #[])).run Try.prog w5 = .ok () w6 ∧ HMap w6 W.heap.size (kindF p) ∧ Below W.heap.size W w6 := by
  have ut := Try.underlying88
  obtain ⟨w1, r1, m1, f1⟩ := (HMap.made W).put (x := 1) ut (by decide) (by decide) (.func (.func 44) #[.pointer (some ⟨p, 0, none⟩)] #[])
  obtain ⟨w2, r2, m2, f2⟩ := m1.put (x := 2) ut (by decide) (by decide) (.func (.func 45) #[.pointer (some ⟨p, 0, none⟩)] #[])
  obtain ⟨w3, r3, m3, f3⟩ := m2.put (x := 3) ut (by decide) (by decide) (.func (.func 46) #[.pointer (some ⟨p, 0, none⟩)] #[])
  obtain ⟨w4, r4, m4, f4⟩ := m3.put (x := 4) ut (by decide) (by decide) (.func (.func 47) #[.pointer (some ⟨p, 0, none⟩)] #[])
  obtain ⟨w5, r5, m5, f5⟩ := m4.put (x := 5) ut (by decide) (by decide) (.func (.func 48) #[.pointer (some ⟨p, 0, none⟩)] #[])
  obtain ⟨w6, r6, m6, f6⟩ := m5.put (x := 6) ut (by decide) (by decide) (.func (.func 49) #[.pointer (some ⟨p, 0, none⟩)] #[])
  refine ⟨w1, w2, w3, w4, w5, w6, r1, r2, r3, r4, r5, r6, m6.ext (fun x => ?_), ?_⟩
  · show _ = kindF p x
    unfold kindF
    by_cases e1 : x = 1
    · subst e1; simp
    · by_cases e2 : x = 2
      · subst e2; simp
      · by_cases e3 : x = 3
        · subst e3; simp
        · by_cases e4 : x = 4
          · subst e4; simp
          · by_cases e5 : x = 5
            · subst e5; simp
            · by_cases e6 : x = 6
              · subst e6; simp
              · simp [e1, e2, e3, e4, e5, e6]
  · have b1 : Below W.heap.size W (W.alloc (.map #[] 0)) := vone_new W _
    have s0 : (W.alloc (.map #[] 0)).heap.size = W.heap.size + 1 := by simp
    have ff : Fr (W.alloc (.map #[] 0)) w6 (fun k => k = W.heap.size) := f1.trans (f2.trans (f3.trans (f4.trans (f5.trans f6 (fun _ _ h => h)) (fun _ _ h => h)) (fun _ _ h => h)) (fun _ _ h => h)) (fun _ _ h => h)
    exact b1.trans (ff.below (by omega) (fun k e => by omega))
end Go.Proofs.Ytckjjajncgmddaa
