/- The document's disk: all files, one file. -/
import Derived.Test.YthpojidkmmflhaaRfDone
namespace Go.Proofs.Ythpojidkmmflhaa
open Go.RowKit Go.Maps
attribute [local go_sem] Oper.semAt_some
theorem ch_shape {w : World} {v : Value} {L : List Chg} (h : ChAt w v L) : ∃ ao c, v = .slice ao L.length c ∧ L.length ≤ c ∧ (0 < L.length → ∃ g, ao = some ⟨g, 0, none⟩) := by
  rcases h.2 with ⟨h1, h2⟩ | ⟨g, cap, cur, rfl, _, _, h3, _⟩
  · exact ⟨none, 0, by rw [h1, h2], by omega, fun e => by omega⟩
  · exact ⟨_, _, rfl, h3, fun _ => ⟨g, rfl⟩⟩
theorem ch_cells {w : World} {g n cap : Nat} {L : List Chg} (h : ChAt w (.slice (some ⟨g, 0, none⟩) n cap) L) (hn : n = L.length) (j : Nat) (hj : j < L.length) : w.cell? ⟨g, j * 4, none⟩ = some (.int .i64 L[j].k) ∧ w.cell? ⟨g, j * 4 + 1, none⟩ = some (.string (str L[j].nm)) ∧ w.cell? ⟨g, j * 4 + 2, none⟩ = some (.string (str L[j].to)) ∧ w.cell? ⟨g, j * 4 + 3, none⟩ = some (.string (str L[j].s)) := by
  subst hn
  obtain ⟨a0, a1, a2, a3⟩ := chc_get L j hj
  have h0 := World.ownsRow.cells h (g := g) rfl _ _ a0
  have h1 := World.ownsRow.cells h (g := g) rfl _ _ a1
  have h2 := World.ownsRow.cells h (g := g) rfl _ _ a2
  have h3 := World.ownsRow.cells h (g := g) rfl _ _ a3
  rw [Addr.add_lit] at h0 h1 h2 h3
  exact ⟨by simpa using h0, by simpa using h1, by simpa using h2, by simpa using h3⟩
theorem box5 {w : World} {b : Nat} {x0 x1 x2 x3 x4 : Value} {t : TypeId} (h : w.heap[b]? = some (.cells #[x0, x1, x2, x3, x4] t (0, 0))) : w.cell? ⟨b, 0, none⟩ = some x0 ∧ w.cell? ⟨b, 1, none⟩ = some x1 ∧ w.cell? ⟨b, 2, none⟩ = some x2 ∧ w.cell? ⟨b, 3, none⟩ = some x3 ∧ w.cell? ⟨b, 4, none⟩ = some x4 := by
  simp [World.cell?, h]
theorem BdA.at2 {A : Dk} {M : Nat} (h : BdA A M) (k : Nat) (hk : k < A.loose.length) : (doneF A.sure (A.loose.take k)).length ≤ 1000000 ∧ (ofF A.loose[k].nm (doneF A.sure (A.loose.take k))).length + A.loose[k].s.length ≤ maxLen := by
  have h1 := len_doneF (A.loose.take k) A.sure
  have h4 := h.len
  rw [List.length_take] at h1
  exact ⟨by omega, (h.at k hk).2⟩
theorem BdA.nowl {A : Dk} {M : Nat} (h : BdA A M) : A.now.length ≤ 1000000 := by
  have h1 := len_doneF A.loose A.sure
  have h4 := h.len
  have e : A.now = doneF A.sure A.loose := rfl
  rw [e]
  omega
/-- A change of the document's. -/
def Chg.okR (c : Chg) : Prop := c.k = 0 ∨ c.k = 1 ∨ c.k = 2 ∨ c.k = 3
section
variable {w : World} {sv lv pv dv : Value} {A : Dk} {M : Nat} {nn : Int} {nm : Bs}
set_option maxRecDepth 100000 in
set_option maxHeartbeats 4000000 in
theorem now_any (hF : FlAt w sv A.sure) (hC : ChAt w lv A.loose) (hok : ∀ c ∈ A.loose, c.okR) (hbd : BdA A M) : Calls Try.prog 15 #[.agg #[sv, lv, .int .i64 nn, pv, dv]] w fun r w' => ∃ v', r = .returned v' ∧ FlAt w' v' A.now ∧ Below w.heap.size w w' := by
  have hB := one_newD w (.cells #[sv, lv, .int .i64 nn, pv, dv] 30)
  have hQ := heap_alloc_new w (.cells #[sv, lv, .int .i64 nn, pv, dv] 30)
  obtain ⟨ao, cp, rfl, hcp, hg⟩ := ch_shape hC
  have HG : Hid (0 < A.loose.length → ∃ g, ao = some ⟨g, 0, none⟩) := hg
  have HC : Hid (∀ g, ao = some ⟨g, 0, none⟩ → ∀ j (hj : j < A.loose.length), w.cell? ⟨g, j * 4, none⟩ = some (.int .i64 A.loose[j].k) ∧ w.cell? ⟨g, j * 4 + 1, none⟩ = some (.string (str A.loose[j].nm)) ∧ w.cell? ⟨g, j * 4 + 2, none⟩ = some (.string (str A.loose[j].to)) ∧ w.cell? ⟨g, j * 4 + 3, none⟩ = some (.string (str A.loose[j].s))) := fun g e j hj => by
    subst e
    exact ch_cells hC rfl j hj
  have HOk : Hid (∀ j (hj : j < A.loose.length), A.loose[j].okR) := fun j hj => hok _ (List.getElem_mem hj)
  have HBd : Hid (∀ j (hj : j < A.loose.length), (doneF A.sure (A.loose.take j)).length ≤ 1000000 ∧ (ofF A.loose[j].nm (doneF A.sure (A.loose.take j))).length + A.loose[j].s.length ≤ maxLen) := fun j hj => hbd.at2 j hj
  have HNow : Hid (A.now = doneF A.sure A.loose) := rfl
  have hn6 : A.loose.length ≤ 1000000 := by have := hbd.len; omega
  obtain ⟨L, hLe⟩ : ∃ L, A.loose = L := ⟨_, rfl⟩
  rw [hLe] at HG HC HOk HBd HNow hn6 hcp hQ hB ⊢
  obtain ⟨n0, hn0⟩ : ∃ n0, L.length = n0 := ⟨_, rfl⟩
  have HN0 : Hid (L.length = n0) := hn0
  rw [hn0] at hn6 hcp hQ hB ⊢
  obtain ⟨W, hW⟩ : ∃ W, w.alloc (.cells #[sv, .slice ao n0 cp, .int .i64 nn, pv, dv] 30) = W := ⟨_, rfl⟩
  rw [hW] at hQ hB
  obtain ⟨q, hq⟩ : ∃ q, w.heap.size = q := ⟨_, rfl⟩
  have HBW : Hid (Below w.heap.size w W) := hB
  rw [hq] at hQ
  obtain ⟨c0, c1, c2, c3, c4⟩ := box5 hQ
  have HF : Hid (FlAt W sv A.sure) := row_new hF hB
  clear hF hC hok hbd hLe hn0 hQ hB hg
  go_enter Try.func15, Try.ntmps15
  go_wp2
  clear hW hq
  go_loopw [3, 4] (fun u i wr => ∃ j : Nat, j ≤ n0 ∧ i = .int .i64 j ∧ FlAt wr u (doneF A.sure (L.take j)) ∧ Below W.heap.size W wr) (fun _ i _ => n0 - (intOf i).toNat)
  case atStart => exact ⟨0, Nat.zero_le _, rfl, HF.out, Below.refl _ _⟩
  case round =>
    obtain ⟨j, hj, rfl, hm, hb⟩ := hrel
    have HM : Hid (FlAt wr u3 (doneF A.sure (L.take j))) := hm
    have HB : Hid (Below W.heap.size W wr) := hb
    have d1 := (hb.cell (p := ⟨q, 1, none⟩) (lt_cellD c1)).trans c1
    by_cases hlt : j < n0
    · have HLt : Hid (j < n0) := hlt
      have hjl : j < L.length := by rw [HN0.out]; exact hlt
      obtain ⟨g, rfl⟩ := HG.out (by omega)
      obtain ⟨z0, z1, z2, z3⟩ := HC.out g rfl j hjl
      have hbw := HBW.out.trans (hb.mono HBW.out.size)
      replace z0 := (hbw.cell (p := ⟨g, j * 4, none⟩) (lt_cellD z0)).trans z0
      replace z1 := (hbw.cell (p := ⟨g, j * 4 + 1, none⟩) (lt_cellD z1)).trans z1
      replace z2 := (hbw.cell (p := ⟨g, j * 4 + 2, none⟩) (lt_cellD z2)).trans z2
      replace z3 := (hbw.cell (p := ⟨g, j * 4 + 3, none⟩) (lt_cellD z3)).trans z3
      have HY : Hid (doneF A.sure (L.take (j + 1)) = doF (doneF A.sure (L.take j)) L[j]) := doneF_take _ _ _ hjl
      have hbj := HBd.out j hjl
      have hDo : Calls Try.prog 34 #[u3, .agg #[.int .i64 L[j].k, .string (str L[j].nm), .string (str L[j].to), .string (str L[j].s)]] wr fun r w' => ∃ v', r = .returned v' ∧ FlAt w' v' (doF (doneF A.sure (L.take j)) L[j]) ∧ Below wr.heap.size wr w' := done_any HM.out L[j] (HOk.out j hjl) hbj.1 hbj.2
      rw [← HY.out] at hDo
      generalize L[j] = y at z0 z1 z2 z3 hDo
      clear hbj hjl hbw hm hb HY HOk HBd HC
      go_wp2_with (go_at_call 34; refine hDo.mono ?_; rintro r w2 ⟨v', rfl, m2, hb2⟩; have HM2 : Hid (FlAt w2 v' (doneF A.sure (L.take (j + 1)))) := m2; have HB2 : Hid (Below wr.heap.size wr w2) := hb2; clear m2 hb2)
      go_roundw
      case rel => exact ⟨j + 1, HLt.out, by go_num, HM2.out, HB.out.trans (HB2.out.mono HB.out.size)⟩
      case measure => have := HLt.out; simp [intOf]; omega
    · obtain rfl : j = n0 := by omega
      have HE : Hid (FlAt wr u3 A.now) := by
        show FlAt wr u3 A.now
        rw [HNow.out]
        have := HM.out
        rw [List.take_of_length_le (by rw [HN0.out]; omega)] at this
        exact this
      clear hm hb
      go_wp2
      go_ret
      exact ⟨_, rfl, HE.out, HBW.out.trans (HB.out.mono HBW.out.size)⟩
set_option maxRecDepth 100000 in
set_option maxHeartbeats 1000000 in
theorem rread_any (hF : FlAt w sv A.sure) (hC : ChAt w lv A.loose) (hok : ∀ c ∈ A.loose, c.okR) (hbd : BdA A M) : Calls Try.prog 28 #[.agg #[sv, lv, .int .i64 nn, pv, dv], .string (str nm)] w fun r w' => r = .returned (.tuple #[.string (str (ofF nm A.now)), .bool (getF nm A.now).isSome]) ∧ Below w.heap.size w w' := by
  have hB := one_newD w (.cells #[sv, lv, .int .i64 nn, pv, dv] 30)
  have hQ := heap_alloc_new w (.cells #[sv, lv, .int .i64 nn, pv, dv] 30)
  obtain ⟨W, hW⟩ : ∃ W, w.alloc (.cells #[sv, lv, .int .i64 nn, pv, dv] 30) = W := ⟨_, rfl⟩
  rw [hW] at hQ hB
  have hNow : Calls Try.prog 15 #[.agg #[sv, lv, .int .i64 nn, pv, dv]] W fun r w' => ∃ v', r = .returned v' ∧ FlAt w' v' A.now ∧ Below W.heap.size W w' := now_any (row_new hF hB) (row_new hC hB) hok hbd
  obtain ⟨c0, c1, c2, c3, c4⟩ := box5 hQ
  have HB : Hid (Below w.heap.size w W) := hB
  have HL : Hid (A.now.length ≤ 1000000) := hbd.nowl
  have HFi : Hid (∀ V v, FlAt V v A.now → Calls Try.prog 48 #[v, .string (str nm)] V fun r w' => r = .returned (.tuple #[.int .i64 (posF nm A.now : Nat), .bool (getF nm A.now).isSome]) ∧ Below V.heap.size V w') := fun V v h => find_any h HL.out
  have HOf : Hid (∀ V v, FlAt V v A.now → Calls Try.prog 49 #[v, .string (str nm)] V fun r w' => r = .returned (.string (str (ofF nm A.now))) ∧ Below V.heap.size V w') := fun V v h => of_any h HL.out
  generalize ofF nm A.now = oo at *
  generalize (getF nm A.now).isSome = bb at *
  generalize posF nm A.now = pp at *
  clear hF hC hok hbd hQ hB
  go_enter Try.func28, Try.ntmps28
  go_wp2_with (first
    | (go_at_call 15; refine hNow.mono ?_; rintro r w1 ⟨v1, rfl, m1, hb1⟩; have HM1 : Hid (FlAt w1 v1 A.now) := m1; have HB1 : Hid (Below W.heap.size W w1) := hb1; clear m1 hb1)
    | (go_at_call 48; refine Calls.mono (HFi.out w1 v1 HM1.out) ?_; rintro r w2 ⟨rfl, hb2⟩; have HB2 : Hid (Below w1.heap.size w1 w2) := hb2; clear hb2)
    | (go_at_call 49; refine Calls.mono (HOf.out w2 v1 (row_new HM1.out HB2.out)) ?_; rintro r w3 ⟨rfl, hb3⟩; have HB3 : Hid (Below w2.heap.size w2 w3) := hb3; clear hb3))
  go_ret2
  have b1 := HB.out.trans (HB1.out.mono HB.out.size)
  have b2 := b1.trans (HB2.out.mono b1.size)
  exact ⟨rfl, b2.trans (HB3.out.mono b2.size)⟩
end
end Go.Proofs.Ythpojidkmmflhaa
