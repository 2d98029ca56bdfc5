import Derived.Test.YtnhjflebaeokeaaGreatVwPutM
import Derived.Test.YtnhjflebaeokeaaGreatVwF3M
import Derived.Test.YtnhjflebaeokeaaGreatRdRoundM
import Derived.Test.YtnhjflebaeokeaaGreatReader2M
/- An entry off bytes. -/
namespace Go.Proofs.YtnhjflebaeokeaaGreat
open Go.RowKit
attribute [local go_sem] Oper.semAt_some
theorem rct_most {w : World} {p : Nat} {s : ByteArray} {a : Nat} {e : Int} (h : Rd w p s a e) (hs : s.size ≤ maxLen) (ha : a ≤ s.size) {n a' : Nat} {e' : Int} (hq : rdCount s a e 2147483647 = (n, a', e')) :
    Calls Tryz.prog 119 #[.pointer (some ⟨p, 0, none⟩), .int .i64 2147483647] w fun r w' => r = .returned (.int .i64 n) ∧ Rd w' p s a' e' ∧ Fr w w' (fun k => k = p) := by
  have := rcount_any (most := 2147483647) h hs ha (by decide)
  rw [hq] at this
  exact this
theorem rct_k {w : World} {p : Nat} {s : ByteArray} {a : Nat} {e : Int} (h : Rd w p s a e) (hs : s.size ≤ maxLen) (ha : a ≤ s.size) {n a' : Nat} {e' : Int} (hq : rdCount s a e 1000 = (n, a', e')) :
    Calls Tryz.prog 119 #[.pointer (some ⟨p, 0, none⟩), .int .i64 1000] w fun r w' => r = .returned (.int .i64 n) ∧ Rd w' p s a' e' ∧ Fr w w' (fun k => k = p) := by
  have := rcount_any (most := 1000) h hs ha (by decide)
  rw [hq] at this
  exact this
theorem rtx {w : World} {p : Nat} {s : ByteArray} {a : Nat} {e : Int} (h : Rd w p s a e) (hs : s.size ≤ maxLen) (ha : a ≤ s.size) {t : ByteArray} {a' : Nat} {e' : Int} (hq : rdText s a e = (t, a', e')) :
    Calls Tryz.prog 120 #[.pointer (some ⟨p, 0, none⟩)] w fun r w' => r = .returned (.string t) ∧ Rd w' p s a' e' ∧ Fr w w' (fun k => k = p) := by
  have := rtext_any h hs ha
  rw [hq] at this
  exact this
/-- The entry that is told: an empty one with an error. -/
def okE (n : Nat) (t : ByteArray) (e : Int) : Ent := if e = 0 then ⟨n, t⟩ else ⟨0, str []⟩
set_option maxRecDepth 100000 in
set_option maxHeartbeats 2000000 in
theorem takeE_any {w : World} {p : Nat} {s : ByteArray} {a n a1 a2 : Nat} {e e1 e2 : Int} {t : ByteArray} (h : Rd w p s a e) (hs : s.size ≤ maxLen) (ha : a ≤ s.size) (h1 : rdCount s a e 2147483647 = (n, a1, e1)) (h2 : rdText s a1 e1 = (t, a2, e2)) :
    Calls Tryz.prog 123 #[.pointer (some ⟨p, 0, none⟩)] w fun r w' => r = .returned (.agg #[.int .i64 (okE n t e2).v, .string (okE n t e2).s]) ∧ Rd w' p s a2 e2 ∧ Fr w w' (fun k => k = p) := by
  have HR : Hid (Rd w p s a e) := h
  have H1 : Hid (rdCount s a e 2147483647 = (n, a1, e1)) := h1
  have H2 : Hid (rdText s a1 e1 = (t, a2, e2)) := h2
  have HA1 : Hid (a1 ≤ s.size) := (rdCount_to (most := 2147483647) ha h1).1
  have HS : Hid (s.size ≤ maxLen) := hs
  have HA : Hid (a ≤ s.size) := ha
  have hpl : p < w.heap.size := vlt_blk h
  clear h h1 h2 ha hs
  go_enter Tryz.func123, Tryz.ntmps123
  go_upto_region 1 with (fail)
  generalize hW : World.alloc _ _ = W
  have b0 : Below w.heap.size w W := by rw [← hW]; exact vone_new _ _
  have hZ : W.heap[w.heap.size]? = some (.cells #[.int .i64 0, .string (str [])] 106 (0, 0)) := by rw [← hW]; exact heap_alloc_new _ _
  have HR0 : Hid (Rd W p s a e) := (b0.block p hpl).trans HR.out
  obtain ⟨q, hq⟩ : ∃ q, w.heap.size = q := ⟨_, rfl⟩
  have HQ : Hid (w.heap.size = q) := hq
  rw [hq] at b0 hZ hpl ⊢
  have HB0 : Hid (Below q w W) := b0
  have HZ : Hid (W.heap[q]? = some (.cells #[.int .i64 0, .string (str [])] 106 (0, 0))) := hZ
  clear hW b0 hZ hq
  go_upto_region 2 with (first
    | (go_at_call 119; refine (rct_most HR0.out HS.out HA.out H1.out).mono ?_; rintro r w1 ⟨rfl, hr1, hf1⟩; have HR1 : Hid (Rd w1 p s a1 e1) := hr1; have HF1 : Hid (Fr W w1 (fun k => k = p)) := hf1; clear hr1 hf1)
    | (go_at_call 120; refine (rtx HR1.out HS.out HA1.out H2.out).mono ?_; rintro r w2 ⟨rfl, hr2, hf2⟩; have HR2 : Hid (Rd w2 p s a2 e2) := hr2; have HF2 : Hid (Fr W w2 (fun k => k = p)) := HF1.out.trans hf2 (fun _ _ h => h); clear hr2 hf2))
  generalize hW3 : World.alloc _ _ = W3
  have b3 : Below w2.heap.size w2 W3 := by rw [← hW3]; exact vone_new _ _
  have hX : W3.heap[w2.heap.size]? = some (.cells #[.int .i64 n, .string t] 106 (0, 0)) := by rw [← hW3]; exact heap_alloc_new _ _
  have hp2 := vlt_blk HR2.out
  have HR3 : Hid (Rd W3 p s a2 e2) := (b3.block p hp2).trans HR2.out
  have hqp : q ≠ p := by omega
  have hZ3 : W3.heap[q]? = some (.cells #[.int .i64 0, .string (str [])] 106 (0, 0)) := by
    have l1 := vlt_blk HZ.out
    have z2 := (HF2.out.block q l1 hqp).trans HZ.out
    exact (b3.block q (vlt_blk z2)).trans z2
  have HF3 : Hid (Fr W W3 (fun k => k = p)) := HF2.out.trans (Fr.ofBelow b3 _) (fun _ _ h => h)
  obtain ⟨z0, z1, f0, f1⟩ := vbox2 hZ3
  obtain ⟨g0, g1, _, _⟩ := vbox2 hX
  have HZ3 : Hid (W3.heap[q]? = some (.cells #[.int .i64 0, .string (str [])] 106 (0, 0))) := hZ3
  have HFin : Hid (∀ x y Wz, (W3.setCell ⟨q, 0, none⟩ x).setCell ⟨q, 1, none⟩ y = Wz → Rd Wz p s a2 e2 ∧ Fr w Wz (fun k => k = p)) := fun x y Wz hz => by
    have fz : Fr W3 Wz (fun k => k = q) := by rw [← hz]; exact vset2_fr _ q _ _
    refine ⟨(fz.block p (vlt_blk HR3.out) (fun e => hqp e.symm)).trans HR3.out, ?_⟩
    have hQ := HQ.out
    have f1 : Fr w W3 (fun k => k = p) := by
      have := Fr.ofBelow (show Below w.heap.size w W by rw [hQ]; exact HB0.out) (fun k => k = p)
      exact this.trans HF3.out (fun _ _ h => h)
    exact f1.trans fz (fun i hi e => by omega)
  clear hW3 b3 hX hZ3 hp2
  by_cases he : e2 = 0
  · subst he
    go_wp2_with (go_at_call 145; refine (err_any HR3.out).mono ?_; rintro r W3 ⟨rfl, rfl⟩)
    refine bodyPost_ret (v := .agg #[.int .i64 n, .string t]) (results_cell_row Tryz.results123 _ _ q 106 _ (0, 0) _ rfl (vset2 _ _ HZ3.out) Tryz.underlying106 rfl size_ent) rfl ?_
    obtain ⟨k1, k2⟩ := HFin.out _ _ _ rfl
    exact ⟨rfl, k1, k2⟩
  · have heb : (e2 == 0) = false := by simpa using he
    have hne : okE n t e2 = ⟨0, str []⟩ := if_neg he
    have HNe : Hid (okE n t e2 = ⟨0, str []⟩) := hne
    clear hne
    go_wp2_with (go_at_call 145; refine (err_any HR3.out).mono ?_; rintro r W3 ⟨rfl, rfl⟩)
    refine bodyPost_ret (v := .agg #[.int .i64 0, .string (str [])]) (results_cell_row Tryz.results123 _ _ q 106 _ (0, 0) _ rfl (vset2 _ _ HZ3.out) Tryz.underlying106 rfl size_ent) rfl ?_
    obtain ⟨k1, k2⟩ := HFin.out _ _ _ rfl
    rw [HNe.out]
    exact ⟨rfl, k1, k2⟩
end Go.Proofs.YtnhjflebaeokeaaGreat
