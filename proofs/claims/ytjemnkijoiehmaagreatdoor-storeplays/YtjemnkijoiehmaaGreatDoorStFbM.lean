import Derived.Test.YtjemnkijoiehmaaGreatDoorStFM
import Derived.Test.YtjemnkijoiehmaaGreatDoorStKM
import Derived.Test.YtjemnkijoiehmaaGreatDoorStMapM
/- store: how many bytes are in memory; which texts go. -/
namespace Go.Proofs.YtjemnkijoiehmaaGreatDoor
open Go.RowKit
attribute [local go_sem] Oper.semAt_some
theorem zrH (w : World) : (zeroValue 59).run Tryz.prog w = .ok zvH w := by
  go_simp
  rfl
/-- A text read off its cells. -/
theorem hfld (s : ByteArray) (a : Bool) (u : Int) (W : World) : (Instr.field 59 (.agg #[.string s, .bool a, .int .u32 u]) 0).run Tryz.prog W = .ok (.string s) W := by kernel_rfl
theorem mtH : MT 47 59 zvH := ⟨Tryz.underlying47, zrH⟩
/-- A text's cells, whether it is there or not. -/
def hdD (o : Option Hd) : Hd := o.getD ⟨[], false, 0⟩
theorem lvh_getD (o : Option Hd) : (o.map lvH).getD zvH = .agg #[.string (str (hdD o).t), .bool (hdD o).a, .int .u32 (hdD o).u] := by
  cases o <;> rfl
theorem hdD_len (g : Int → Option Hd) (x : Int) : (hdD (g x)).t.length = lenH g x := by
  unfold hdD lenH
  cases g x <;> rfl
/-- A store's block. -/
def StBl (w : World) (q p : Nat) (bud sp : Int) (mb : Option Nat) (mv : Value) : Prop := w.heap[q]? = some (.cells #[.pointer (some ⟨p, 0, none⟩), .int .i64 bud, .map mb, mv, .int .i64 sp] 49 (0, 0))
theorem StBl.cells {w : World} {q p : Nat} {bud sp : Int} {mb : Option Nat} {mv : Value} (h : StBl w q p bud sp mb mv) : w.cell? ⟨q, 0, none⟩ = some (.pointer (some ⟨p, 0, none⟩)) ∧ w.cell? ⟨q, 1, none⟩ = some (.int .i64 bud) ∧ w.cell? ⟨q, 2, none⟩ = some (.map mb) ∧ w.cell? ⟨q, 3, none⟩ = some mv ∧ w.cell? ⟨q, 4, none⟩ = some (.int .i64 sp) := by
  unfold StBl at h
  simp [World.cell?, h]
theorem StBl.free {w : World} {q p : Nat} {bud sp : Int} {mb : Option Nat} {mv : Value} (h : StBl w q p bud sp mb mv) : ∀ i, w.frozen? ⟨q, i, none⟩ = false := by
  unfold StBl at h
  intro i
  simp [World.frozen?, h]
section
variable {w : World} {q : Nat} {mb : Option Nat} {g : Int → Option Hd} {v : Value} {L : List Int}
set_option maxRecDepth 100000 in
theorem sbytes (c2 : w.cell? ⟨q, 2, none⟩ = some (.map mb)) (hg : IMo lvH w mb g) (hv : NrS w v L) (hL : L.length ≤ 16) (hi : ∀ x ∈ L, I6 x) (hm : ∀ x, lenH g x ≤ 140737488351232) : Calls Tryz.prog 24 #[.pointer (some ⟨q, 0, none⟩), v] w fun r w' => r = .returned (.int .i64 (byt g L)) ∧ w' = w := by
  obtain ⟨ao, cap, rfl, hcap, hcs⟩ := hv
  have HL : Hid (∀ k (h : k < L.length), (Instr.lookup 47 (.map mb) (.int .i64 L[k]) false).run Tryz.prog w = .ok (.agg #[.string (str (hdD (g L[k])).t), .bool (hdD (g L[k])).a, .int .u32 (hdD (g L[k])).u]) w) := fun k h => by
    have := hg.look mtH (hi _ (List.getElem_mem h))
    rw [lvh_getD] at this
    exact this
  have HM : Hid (∀ k (h : k < L.length), (str (hdD (g L[k])).t).size ≤ 140737488351232) := fun k h => by rw [str_size, hdD_len]; exact hm _
  have HS : Hid (∀ k (h : k < L.length), byt g (L.take (k + 1)) = byt g (L.take k) + (str (hdD (g L[k])).t).size) := fun k h => by
    rw [List.take_succ_eq_append_getElem h, byt_app, byt_cons, byt_nil, str_size, hdD_len]
    rfl
  have HB : Hid (∀ k, byt g (L.take k) ≤ 16 * 140737488351232) := fun k => by
    have := byt_le (L.take k) (fun x _ => hm x)
    have h2 : (L.take k).length ≤ 16 := by rw [List.length_take]; omega
    exact Nat.le_trans this (Nat.mul_le_mul_right _ h2)
  have HC : Hid (∀ k (h : k < L.length), ∃ b off, ao = some ⟨b, off, none⟩ ∧ w.cell? ⟨b, off + k, none⟩ = some (.int .i64 L[k])) := fun k h => by
    obtain ⟨b, off, e, hc⟩ := hcs (by omega)
    exact ⟨b, off, e, hc k h⟩
  have HE : Hid (byt g (L.take L.length) = byt g L) := by show _ = _; rw [List.take_length]
  clear hcs hm hi hg
  obtain ⟨n0, hn0⟩ : ∃ n0, L.length = n0 := ⟨_, rfl⟩
  rw [hn0] at hL hcap
  have HN : Hid (L.length = n0) := hn0
  rw [hn0]
  clear hn0
  have hf := hfld
  go_enter Tryz.func24, Tryz.ntmps24
  go_wp2
  go_loop [5, 10] (fun c i => ∃ k : Nat, k ≤ n0 ∧ i = .int .i64 k ∧ c = .int .i64 (byt g (L.take k))) (fun _ i => n0 - (intOf i).toNat)
  case atStart => exact ⟨0, Nat.zero_le _, rfl, rfl⟩
  case round =>
    obtain ⟨k, hk, rfl, rfl⟩ := hrel
    by_cases hlt : k < n0
    · have hk2 : k < L.length := by have := HN.out; omega
      have hlk := HL.out k hk2
      have hmk := HM.out k hk2
      have hsk := HS.out k hk2
      have hbk := HB.out k
      obtain ⟨b, off, rfl, hc⟩ := HC.out k hk2
      generalize byt g (L.take k) = t0 at hsk hbk ⊢
      have HSk : Hid (byt g (L.take (k + 1)) = t0 + (str (hdD (g L[k])).t).size) := hsk
      generalize hdD (g L[k]) = y at hlk hmk HSk
      generalize L[k] = x at hlk hc
      clear hsk
      go_wp2
      go_round
      case rel => exact ⟨k + 1, hlt, by go_num, by rw [HSk.out]; go_num⟩
      case measure => simp [intOf]; omega
    · obtain rfl : k = n0 := by omega
      go_wp2
      go_ret
      have h1 := HE.out
      rw [HN.out] at h1
      rw [h1]
      exact ⟨rfl, rfl⟩
set_option maxRecDepth 100000 in
theorem schoose {p : Nat} {bud sp : Int} {t : Bs} {n : Int} (hbl : StBl w q p bud sp mb v) (hg : IMo lvH w mb g) (hv : NrS w v L) (hL : L.length ≤ 16) (hi : ∀ x ∈ L, I6 x) (hm : ∀ x, lenH g x ≤ 140737488351232) (hb : I6 bud) (ht : t.length ≤ 140737488351232) : Calls Tryz.prog 31 #[.pointer (some ⟨q, 0, none⟩), .int .i64 n, .string (str t)] w fun r w' => ∃ vg vs, r = .returned (.tuple #[vg, vs]) ∧ NrO w' w.heap.size vg ((woI L n).take (goN g bud (woI L n) (byt g (woI L n) + t.length))) ∧ NrO w' w.heap.size vs ((woI L n).drop (goN g bud (woI L n) (byt g (woI L n) + t.length))) ∧ Below w.heap.size w w' := by
  have hW := swithout (n := n) hv (by omega)
  have hlO := woI_le L n
  have hiO : ∀ x ∈ woI L n, I6 x := fun x hx => hi x (mem_woI.1 hx).1
  generalize woI L n = O at hW hlO hiO ⊢
  obtain ⟨T0, hT0⟩ : ∃ T0, byt g O + t.length = T0 := ⟨_, rfl⟩
  have HB : Hid (∀ k, byt g (O.drop k) ≤ 16 * 140737488351232) := fun k => by
    have := byt_le (O.drop k) (fun x _ => hm x)
    have h2 : (O.drop k).length ≤ 16 := by rw [List.length_drop]; omega
    exact Nat.le_trans this (Nat.mul_le_mul_right _ h2)
  have hts : (str t).size ≤ 140737488351232 := by rw [str_size]; exact ht
  have HT : Hid (t.length = (str t).size) := (str_size t).symm
  have HK : Hid (byt g O + t.length = T0) := hT0
  rw [hT0]
  have HN1 : Hid (∀ w1 v1, NrO w1 w.heap.size v1 O → Below w.heap.size w w1 → (Calls Tryz.prog 24 #[.pointer (some ⟨q, 0, none⟩), v1] w1 fun r w' => r = .returned (.int .i64 (byt g O)) ∧ w' = w1) ∧ w1.cell? ⟨q, 1, none⟩ = some (.int .i64 bud) ∧ w1.cell? ⟨q, 2, none⟩ = some (.map mb)) := fun w1 v1 h1 h2 => by
    have e1 := gnew_cell h2 hbl.cells.2.1
    have e2 := gnew_cell h2 hbl.cells.2.2.1
    exact ⟨sbytes e2 (hg.kept (Fr.ofBelow h2 (fun _ => False)) (fun _ _ h => h)) h1.toS (by omega) hiO hm, e1, e2⟩
  have HLk : Hid (∀ w1, Below w.heap.size w w1 → ∀ k (h : k < O.length), (Instr.lookup 47 (.map mb) (.int .i64 O[k]) false).run Tryz.prog w1 = .ok (.agg #[.string (str (hdD (g O[k])).t), .bool (hdD (g O[k])).a, .int .u32 (hdD (g O[k])).u]) w1) := fun w1 hb1 k h => by
    have := (hg.kept (Fr.ofBelow hb1 (fun _ => False)) (fun _ _ h => h)).look mtH (hiO _ (List.getElem_mem h))
    rw [lvh_getD] at this
    exact this
  have HM : Hid (∀ k (h : k < O.length), byt g (O.drop k) = (str (hdD (g O[k])).t).size + byt g (O.drop (k + 1)) ∧ lenH g O[k] = (str (hdD (g O[k])).t).size) := fun k h => by
    rw [byt_drop g O k h, str_size, hdD_len]
    exact ⟨rfl, rfl⟩
  obtain ⟨c0, c1, c2, c3, c4⟩ := hbl.cells
  have hb1 := hb.1
  have hb2 := hb.2
  clear hbl hg hv hi hm hiO hb c0 c1 c2 c4 ht hT0
  obtain ⟨n0, hn0⟩ : ∃ n0, O.length = n0 := ⟨_, rfl⟩
  have HN : Hid (O.length = n0) := hn0
  have hn16 : n0 ≤ 16 := by omega
  clear hn0 hlO hL
  have hf := hfld
  go_enter Tryz.func31, Tryz.ntmps31
  go_upto_region 2 with (go_at_call 20; refine hW.mono ?_; rintro r w1 ⟨v1, rfl, h1, h2⟩; have HO1 : Hid (NrO w1 w.heap.size v1 O) := h1; have HB1 : Hid (Below w.heap.size w w1) := h2; clear h1 h2 hW c3)
  obtain ⟨hby, c1, c2⟩ := HN1.out w1 v1 HO1.out HB1.out
  obtain ⟨ao, cp, hsh⟩ := HO1.out.shape
  rw [HN.out] at hsh
  subst hsh
  have hbO := HB.out 0
  rw [List.drop_zero] at hbO
  have HK' : Hid (((byt g O : Nat) : Int) + (str t).size = ((T0 : Nat) : Int)) := by show _ = _; rw [← HK.out, HT.out]; simp
  have HC : Hid (∀ k (h : k < O.length), ∃ b off, ao = some ⟨b, off, none⟩ ∧ n0 ≤ cp ∧ w1.cell? ⟨b, off + k, none⟩ = some (.int .i64 O[k])) := fun k h => by
    rcases HO1.out with ⟨h1, h2⟩ | ⟨gg, off, cap, h1, h2, h3, h4, h5, h6⟩
    · subst h2; cases h
    · cases h1
      exact ⟨gg, off, rfl, by have := HN.out; omega, h6 k h⟩
  have HCN : Hid (cp ≤ 9223372036854775807) := by
    rcases HO1.out with ⟨h1, h2⟩ | ⟨gg, off, cap, h1, h2, h3, h4, h5, h6⟩
    · cases h1; show _ ≤ _; omega
    · cases h1
      exact h5
  go_upto_region 3 with (go_at_call 24; refine hby.mono ?_; rintro r w2 ⟨rfl, rfl⟩)
  rw [HK'.out]
  go_wp2
  go_loop [9, 26] (fun c i => ∃ k : Nat, k ≤ n0 ∧ i = .int .i64 k ∧ c = .int .i64 ((byt g (O.drop k) + t.length : Nat) : Int) ∧ goN g bud O T0 = goN g bud (O.drop k) (byt g (O.drop k) + t.length) + k) (fun _ i => n0 - (intOf i).toNat)
  case atStart => exact ⟨0, Nat.zero_le _, rfl, by rw [List.drop_zero, HK.out], by rw [List.drop_zero, HK.out]; rfl⟩
  case round =>
    obtain ⟨k, hk, rfl, rfl, hgo⟩ := hrel
    have HG : Hid _ := hgo
    clear hgo
    by_cases hlt : k < n0
    · have hk2 : k < O.length := by have := HN.out; omega
      have hlk := HLk.out w2 HB1.out k hk2
      obtain ⟨hm1, hm2⟩ := HM.out k hk2
      obtain ⟨b, off, rfl, hcap, hc⟩ := HC.out k hk2
      have hbk := HB.out k
      have hcn := HCN.out
      have HG2 := goN_drop g bud O k (byt g (O.drop k) + t.length) hk2
      have HG3 : Hid _ := HG2
      clear HG2
      obtain ⟨S, hS⟩ : ∃ S, byt g (O.drop k) + t.length = S := ⟨_, rfl⟩
      have HSS : Hid (byt g (O.drop k) + t.length = S) := hS
      rw [hS] at HG3
      rw [hS] at HG
      rw [hS]
      have HM2 : Hid (lenH g O[k] = (str (hdD (g O[k])).t).size) := hm2
      have HM1 : Hid (byt g (O.drop k) = (str (hdD (g O[k])).t).size + byt g (O.drop (k + 1))) := hm1
      have hS2 : S ≤ 16 * 140737488351232 + 140737488351232 := by have := HT.out; omega
      have hS3 : (str (hdD (g O[k])).t).size ≤ S := by omega
      clear hm1 hm2 hS hbk
      by_cases hle : (S : Int) ≤ bud
      · have HZ : Hid (goN g bud O T0 = k) := by
          show _ = _
          rw [HG.out, HG3.out, if_pos hle, Nat.zero_add]
        generalize O[k] = x at hlk hc
        generalize hdD (g x) = y at hlk
        clear HM1 HM2 hS3
        have h9 : off + k * 1 = off + k := by omega
        go_upto_region 7 with (fail)
        go_quiet (fail)
        go_wp2
        go_ret2
        rw [HZ.out]
        have h3 := NrO.pre (m := k) HO1.out (by have := HN.out; omega)
        have h4 := NrO.rest (m := k) HO1.out (by have := HN.out; omega)
        rw [HN.out] at h4
        have hdn : Below w2.heap.size w2 (w2.drewN nq) := ⟨rfl, rfl, rfl, Nat.le_refl _, fun _ _ => rfl⟩
        exact ⟨_, _, rfl, h3.new hdn, h4.new hdn, HB1.out.trans (hdn.mono HB1.out.size)⟩
      · have HZ : Hid (goN g bud O T0 = goN g bud (O.drop (k + 1)) (S - (str (hdD (g O[k])).t).size) + (k + 1)) := by
          show _ = _
          rw [HG.out, HG3.out, if_neg hle, HM2.out]
          omega
        have HZ2 : Hid (S - (str (hdD (g O[k])).t).size = byt g (O.drop (k + 1)) + t.length) := by
          have := HSS.out
          have := HM1.out
          show _ = _
          omega
        clear HM1 HM2
        generalize O[k] = x at hlk hc hS3 HZ HZ2
        generalize hdD (g x) = y at hlk hS3 HZ HZ2
        go_wp2
        go_round
        case rel => exact ⟨k + 1, hlt, by go_num, by rw [← HZ2.out]; go_num, by rw [← HZ2.out]; exact HZ.out⟩
        case measure => simp [intOf]; omega
    · obtain rfl : k = n0 := by omega
      have HZ : Hid (goN g bud O T0 = k) := by
        show _ = _
        rw [HG.out, List.drop_of_length_le (by have := HN.out; omega)]
        unfold goN
        omega
      go_wp2
      go_ret2
      rw [HZ.out]
      have h3 := HO1.out
      refine ⟨_, _, rfl, ?_, ?_, HB1.out⟩
      · rw [List.take_of_length_le (by have := HN.out; omega)]
        exact h3
      · rw [List.drop_of_length_le (by have := HN.out; omega)]
        exact NrO.nil _ _
end
end Go.Proofs.YtjemnkijoiehmaaGreatDoor
