import Derived.Test.YtckjjajncgmddaaVwChM
import Derived.Test.YtckjjajncgmddaaWToM
/- Entries and messages as bytes: what is written. -/
namespace Go.Proofs.Ytckjjajncgmddaa
open Go.RowKit
def entB (e : Ent) : List UInt8 := numB e.v.toNat ++ textB e.s.data.toList
def numsB (L : List Int) : List UInt8 := L.flatMap fun x => numB x.toNat
def VM.nums (m : VM) : List Int := [m.k, m.fr, m.tt, m.vw, m.nm, m.ix, m.cm, m.bi, m.bv]
def vmB (m : VM) : List UInt8 := numsB m.nums ++ textB m.base.data.toList ++ numB m.en.length ++ m.en.flatMap entB
/-- How many bytes the entries have at most. -/
def entsN (L : List Ent) : Nat := (L.map fun e => e.s.size + 30).sum
theorem wcount_v {w0 w : World} {base p : Nat} {v : Value} {l : List UInt8} (n : Int) (h : WTo w0 w base p v l) (hn : n ≤ 9223372036854775807) (hroom : l.length + 10 ≤ 140737488355328) :
    Calls Try.prog 36 #[.pointer (some ⟨p, 0, none⟩), .int .i64 n] w fun r w' => r = .returned (.tuple #[]) ∧ WTo w0 w' base p v (l ++ numB n.toNat) := by
  obtain ⟨v1, hw, hf, hr⟩ := h
  exact (wcount_any n hw hn hroom).mono fun r w' ⟨h1, h2⟩ => ⟨h1, WTo.then hf hr h2⟩
theorem wtext_v {w0 w : World} {base p : Nat} {v : Value} {l : List UInt8} (s : ByteArray) (h : WTo w0 w base p v l) (hroom : l.length + s.size + 10 ≤ 140737488355328) :
    Calls Try.prog 37 #[.pointer (some ⟨p, 0, none⟩), .string s] w fun r w' => r = .returned (.tuple #[]) ∧ WTo w0 w' base p v (l ++ textB s.data.toList) := by
  obtain ⟨v1, hw, hf, hr⟩ := h
  exact (wtext_any s hw hroom).mono fun r w' ⟨h1, h2⟩ => ⟨h1, WTo.then hf hr h2⟩
theorem vnumB_len {n : Int} (h : n ≤ 9223372036854775807) : (numB n.toNat).length ≤ 10 := numB_len10 (by omega)
set_option maxRecDepth 100000 in
set_option maxHeartbeats 1000000 in
theorem putE_w {w0 w : World} {base p : Nat} {v : Value} {l : List UInt8} (e : Ent) (h : WTo w0 w base p v l) (hv : e.v ≤ 9223372036854775807) (hroom : l.length + e.s.size + 30 ≤ 140737488355328) :
    Calls Try.prog 18 #[.pointer (some ⟨p, 0, none⟩), .agg #[.int .i64 e.v, .string e.s]] w fun r w' => r = .returned (.tuple #[]) ∧ WTo w0 w' base p v (l ++ entB e) := by
  obtain ⟨ev, es⟩ := e
  obtain ⟨v1, hw, hf, hr⟩ := h
  have hbp : w.heap.size ≠ p := by have := vlt_blk hw.blk; omega
  have hvp : v1.ownBlock ≠ some w.heap.size := fun e => by have := hw.olt _ e; omega
  obtain ⟨W0, hW0⟩ : ∃ W0, w.alloc (.cells #[.int .i64 ev, .string es] 31) = W0 := ⟨_, rfl⟩
  have hT := WTo.refl (hw.al (.cells #[.int .i64 ev, .string es] 31))
  have hb : W0.heap[w.heap.size]? = some (.cells #[.int .i64 ev, .string es] 31 (0, 0)) := by rw [← hW0]; exact heap_alloc_new _ _
  have q0 : W0.cell? ⟨w.heap.size, 0, none⟩ = some (.int .i64 ev) := by simp [World.cell?, hb]
  have q1 : W0.cell? ⟨w.heap.size, 1, none⟩ = some (.string es) := by simp [World.cell?, hb]
  rw [hW0] at hT
  have HG : Hid (∀ w' l', WTo W0 w' base p v1 l' → WTo w0 w' base p v l') := fun w' l' h' => by rw [← hW0] at h'; exact WTo.then hf hr h'.fromAlloc
  have hr2 : l.length + 10 ≤ 140737488355328 := by omega
  have HRm : Hid ((l ++ numB ev.toNat).length + es.size + 10 ≤ 140737488355328) := by
    show _ ≤ _
    have := vnumB_len (n := ev) hv
    rw [List.length_append]
    simp only at hroom
    omega
  have HV : Hid (ev ≤ 9223372036854775807) := hv
  clear hw hf hr hb hroom hv
  go_enter Try.func18, Try.ntmps18
  go_wp2_with (first
    | (go_at_call 36; refine (wcount_v ev hT HV.out hr2).mono ?_; rintro r w1 ⟨rfl, hT1⟩; have c1 := hT1.cell hbp hvp q1)
    | (go_at_call 37; refine (wtext_v es hT1 HRm.out).mono ?_; rintro r w2 ⟨rfl, hT2⟩))
  go_end0
  refine ⟨rfl, HG.out _ _ ?_⟩
  show WTo W0 w2 base p v1 (l ++ (numB ev.toNat ++ textB es.data.toList))
  rw [← List.append_assoc]
  exact hT2
theorem numsB_snoc (L : List Int) (j : Nat) (h : j < L.length) : numsB (L.take (j + 1)) = numsB (L.take j) ++ numB L[j].toNat := by
  unfold numsB
  rw [List.take_succ_eq_append_getElem h, List.flatMap_append]
  simp
theorem entsB_snoc (L : List Ent) (j : Nat) (h : j < L.length) : (L.take (j + 1)).flatMap entB = (L.take j).flatMap entB ++ entB L[j] := by
  rw [List.take_succ_eq_append_getElem h, List.flatMap_append]
  simp
theorem numsB_len (L : List Int) (h : ∀ x ∈ L, x ≤ 9223372036854775807) : (numsB L).length ≤ 10 * L.length := by
  induction L with
  | nil => simp [numsB]
  | cons x L ih =>
    have h1 := vnumB_len (h x (List.mem_cons_self ..))
    have h2 := ih (fun y hy => h y (List.mem_cons_of_mem _ hy))
    unfold numsB at h2 ⊢
    rw [List.flatMap_cons, List.length_append, List.length_cons]
    omega
theorem entB_len (e : Ent) (h : e.v ≤ 9223372036854775807) (hs : e.s.size ≤ 140737488355328) : (entB e).length ≤ e.s.size + 30 := by
  have h1 := vnumB_len h
  have h2 : (textB e.s.data.toList).length ≤ e.s.size + 10 := by
    unfold textB
    have := numB_len10 (n := e.s.data.toList.length) (by simp; show e.s.size < _; omega)
    rw [List.length_append]
    have : e.s.data.toList.length = e.s.size := by first | rfl | simp
    omega
  unfold entB
  rw [List.length_append]
  omega
theorem entsN_take (L : List Ent) (j : Nat) (hj : j < L.length) : entsN (L.take j) + (L[j].s.size + 30) ≤ entsN L := by
  have e2 : entsN (L.take (j + 1)) = entsN (L.take j) + (L[j].s.size + 30) := by
    unfold entsN
    rw [List.take_succ_eq_append_getElem hj, List.map_append, List.sum_append]
    simp
  have e3 : entsN L = entsN (L.take (j + 1)) + entsN (L.drop (j + 1)) := by
    unfold entsN
    rw [← List.sum_append, ← List.map_append, List.take_append_drop]
  omega
theorem ents_take (L : List Ent) (h : ∀ e ∈ L, e.v ≤ 9223372036854775807) (hn : entsN L ≤ 1000000000) : ∀ j, j ≤ L.length → ((L.take j).flatMap entB).length ≤ entsN (L.take j) := by
  have hsz : ∀ e ∈ L, e.s.size ≤ 140737488355328 := fun e he => by
    obtain ⟨j, hj, rfl⟩ := List.getElem_of_mem he
    have := entsN_take L j hj
    omega
  intro j
  induction j with
  | zero => intro _; simp [entsN]
  | succ j ih =>
    intro hj
    have h1 := ih (by omega)
    have hlt : j < L.length := by omega
    have h2 := entB_len L[j] (h _ (List.getElem_mem hlt)) (hsz _ (List.getElem_mem hlt))
    have e2 : entsN (L.take (j + 1)) = entsN (L.take j) + (L[j].s.size + 30) := by
      unfold entsN
      rw [List.take_succ_eq_append_getElem hlt, List.map_append, List.sum_append]
      simp
    rw [entsB_snoc L j hlt, List.length_append, e2]
    omega
set_option maxRecDepth 100000 in
set_option maxHeartbeats 4000000 in
theorem put_any {w : World} {base p : Nat} {v : Value} {l : List UInt8} (m : VM) {ao : Option Addr} (cap : Nat) (hw : Wr w base p v l) (hE : 0 < m.en.length → ∃ b off, ao = some ⟨b, off, none⟩ ∧ b ≠ p ∧ v.ownBlock ≠ some b ∧ ∀ j (h : j < m.en.length), w.cell? ⟨b, off + j * 2, none⟩ = some (.int .i64 m.en[j].v) ∧ w.cell? ⟨b, off + j * 2 + 1, none⟩ = some (.string m.en[j].s)) (hnum : ∀ x ∈ m.nums, x ≤ 9223372036854775807) (hev : ∀ e ∈ m.en, e.v ≤ 9223372036854775807) (hlen : m.en.length ≤ 100000) (hroom : l.length + m.base.size + entsN m.en + 200 ≤ 1000000000) :
    Calls Try.prog 11 #[.pointer (some ⟨p, 0, none⟩), vmV m (.slice ao m.en.length cap)] w fun r w' => r = .returned (.tuple #[]) ∧ WTo w w' base p v (l ++ vmB m) := by
  obtain ⟨k, fr, tt, vw, nm, ix, cm, bi, bv, mb, en⟩ := m
  have hbp : w.heap.size ≠ p := by have := vlt_blk hw.blk; omega
  have hvp : v.ownBlock ≠ some w.heap.size := fun e => by have := hw.olt _ e; omega
  have hbp2 : w.heap.size + 1 ≠ p := by have := vlt_blk hw.blk; omega
  have hvp2 : v.ownBlock ≠ some (w.heap.size + 1) := fun e => by have := hw.olt _ e; omega
  obtain ⟨L, hL⟩ : ∃ L : List Int, [k, fr, tt, vw, nm, ix, cm, bi, bv] = L := ⟨_, rfl⟩
  have hL9 : L.length = 9 := by rw [← hL]; rfl
  have hN : ∀ x ∈ L, x ≤ 9223372036854775807 := by rw [← hL]; exact hnum
  obtain ⟨W1, hW1⟩ : ∃ W1, (w.alloc (.cells #[.int .i64 k, .int .i64 fr, .int .i64 tt, .int .i64 vw, .int .i64 nm, .int .i64 ix, .int .i64 cm, .int .i64 bi, .int .i64 bv, .string mb, .slice ao en.length cap] 24)).alloc (.cells #[.int .i64 k, .int .i64 fr, .int .i64 tt, .int .i64 vw, .int .i64 nm, .int .i64 ix, .int .i64 cm, .int .i64 bi, .int .i64 bv] 3) = W1 := ⟨_, rfl⟩
  have hT := WTo.refl ((hw.al (.cells #[.int .i64 k, .int .i64 fr, .int .i64 tt, .int .i64 vw, .int .i64 nm, .int .i64 ix, .int .i64 cm, .int .i64 bi, .int .i64 bv, .string mb, .slice ao en.length cap] 24)).al (.cells #[.int .i64 k, .int .i64 fr, .int .i64 tt, .int .i64 vw, .int .i64 nm, .int .i64 ix, .int .i64 cm, .int .i64 bi, .int .i64 bv] 3))
  rw [hW1] at hT
  have HG : Hid (∀ w' l', WTo W1 w' base p v l' → WTo w w' base p v l') := fun w' l' h' => by rw [← hW1] at h'; exact h'.fromAlloc.fromAlloc
  have b1 : Below w.heap.size w W1 := by rw [← hW1]; exact (vone_new _ _).trans ((vone_new _ _).mono (by simp))
  have hM : W1.heap[w.heap.size]? = some (.cells #[.int .i64 k, .int .i64 fr, .int .i64 tt, .int .i64 vw, .int .i64 nm, .int .i64 ix, .int .i64 cm, .int .i64 bi, .int .i64 bv, .string mb, .slice ao en.length cap] 24 (0, 0)) := by rw [← hW1]; exact ((vone_new _ _).block _ (by simp)).trans (heap_alloc_new _ _)
  have hI : W1.heap[w.heap.size + 1]? = some (.cells #[.int .i64 k, .int .i64 fr, .int .i64 tt, .int .i64 vw, .int .i64 nm, .int .i64 ix, .int .i64 cm, .int .i64 bi, .int .i64 bv] 3 (0, 0)) := by
    rw [← hW1]
    have := heap_alloc_new (w.alloc (.cells #[.int .i64 k, .int .i64 fr, .int .i64 tt, .int .i64 vw, .int .i64 nm, .int .i64 ix, .int .i64 cm, .int .i64 bi, .int .i64 bv, .string mb, .slice ao en.length cap] 24)) (.cells #[.int .i64 k, .int .i64 fr, .int .i64 tt, .int .i64 vw, .int .i64 nm, .int .i64 ix, .int .i64 cm, .int .i64 bi, .int .i64 bv] 3)
    rwa [World.size_alloc] at this
  have hIc : ∀ j (h : j < L.length), W1.cell? ⟨w.heap.size + 1, j, none⟩ = some (.int .i64 L[j]) := by
    subst hL
    intro j hj
    match j, hj with
    | 0, _ => exact vcell_blk hI
    | 1, _ => exact vcell_blk hI
    | 2, _ => exact vcell_blk hI
    | 3, _ => exact vcell_blk hI
    | 4, _ => exact vcell_blk hI
    | 5, _ => exact vcell_blk hI
    | 6, _ => exact vcell_blk hI
    | 7, _ => exact vcell_blk hI
    | 8, _ => exact vcell_blk hI
  have HIc : Hid (∀ j (h : j < L.length), W1.cell? ⟨w.heap.size + 1, j, none⟩ = some (.int .i64 L[j])) := hIc
  have HEc : Hid (0 < en.length → ∃ b off, ao = some ⟨b, off, none⟩ ∧ b ≠ p ∧ v.ownBlock ≠ some b ∧ ∀ j (h : j < en.length), W1.cell? ⟨b, off + j * 2, none⟩ = some (.int .i64 en[j].v) ∧ W1.cell? ⟨b, off + j * 2 + 1, none⟩ = some (.string en[j].s)) := fun h0 => by
    obtain ⟨b, off, e, n1, n2, hc⟩ := hE h0
    exact ⟨b, off, e, n1, n2, fun j hj => ⟨(b1.cell (p := ⟨b, off + j * 2, none⟩) (vlt_cell (hc j hj).1)).trans (hc j hj).1, (b1.cell (p := ⟨b, off + j * 2 + 1, none⟩) (vlt_cell (hc j hj).2)).trans (hc j hj).2⟩⟩
  obtain ⟨_, _, _, _, _, _, _, _, _, m9, m10⟩ := vmbox hM
  have HT : Hid (WTo W1 W1 base p v l) := hT
  have HNm : Hid (∀ x ∈ L, x ≤ 9223372036854775807) := hN
  have HEv : Hid (∀ e ∈ en, e.v ≤ 9223372036854775807) := hev
  have HRm : Hid (l.length + mb.size + entsN en + 200 ≤ 1000000000) := hroom
  have HVm : Hid (vmB ⟨k, fr, tt, vw, nm, ix, cm, bi, bv, mb, en⟩ = numsB L ++ textB mb.data.toList ++ numB en.length ++ en.flatMap entB) := by show _ = _; rw [← hL]; rfl
  have hlen2 : en.length ≤ 100000 := hlen
  show Calls Try.prog 11 #[.pointer (some ⟨p, 0, none⟩), .agg #[.int .i64 k, .int .i64 fr, .int .i64 tt, .int .i64 vw, .int .i64 nm, .int .i64 ix, .int .i64 cm, .int .i64 bi, .int .i64 bv, .string mb, .slice ao en.length cap]] w _
  clear hT hM hI hIc hN hnum hev hE hroom b1 hL hlen hw
  have HLn : Hid ((numsB L).length ≤ 90) := by have := numsB_len L HNm.out; show _ ≤ _; omega
  go_enter Try.func11, Try.ntmps11
  go_upto_block 0 with (fail)
  clear hW1
  obtain ⟨q, hq⟩ : ∃ q, w.heap.size = q := ⟨_, rfl⟩
  rw [hq] at HIc m9 m10 hbp hvp hbp2 hvp2 ⊢
  clear hq
  go_cut [28] (fun _ wx => WTo W1 wx base p v (l ++ numsB L))
  case first =>
    go_wp2
    go_loopw [28] (fun i wr => ∃ j : Nat, j ≤ 9 ∧ i = .int .i64 j ∧ WTo W1 wr base p v (l ++ numsB (L.take j))) (fun i _ => 9 - (intOf i).toNat)
    case atStart => exact ⟨0, Nat.zero_le _, rfl, by rw [List.take_zero]; simpa [numsB] using HT.out⟩
    case round =>
      obtain ⟨j, hj, rfl, hTj⟩ := hrel
      by_cases hlt : j < 9
      · have e := HIc.out j (by omega)
        have HS : Hid _ := numsB_snoc L j (by omega)
        have HX : Hid (L[j]'(by omega) ≤ 9223372036854775807) := HNm.out _ (List.getElem_mem _)
        have HRj : Hid ((l ++ numsB (L.take j)).length + 10 ≤ 140737488355328) := by
          show _ ≤ _
          have h1 := numsB_len (L.take j) (fun x hx => HNm.out x (List.mem_of_mem_take hx))
          have h2 := HRm.out
          rw [List.length_take] at h1
          rw [List.length_append]
          omega
        generalize L[j]'(by omega) = x at e HS HX
        have c := hTj.cell hbp2 hvp2 e
        have HTj : Hid (WTo W1 wr base p v (l ++ numsB (L.take j))) := hTj
        have hjI : (j : Int) < 9 := by omega
        have hj0 : (0 : Int) ≤ j := by omega
        clear hTj e hL9
        go_wp2_with (go_at_call 36; refine (wcount_v x HTj.out HX.out HRj.out).mono ?_; rintro r w4 ⟨rfl, hT4⟩; have HT4 : Hid (WTo W1 w4 base p v (l ++ numsB (L.take j) ++ numB x.toNat)) := hT4; clear hT4)
        go_roundw
        case rel => exact ⟨j + 1, by omega, by go_num, by rw [HS.out, ← List.append_assoc]; exact HT4.out⟩
        case measure => simp [intOf]; omega
      · obtain rfl : j = 9 := by omega
        rw [List.take_of_length_le (by omega)] at hTj
        have HTj : Hid (WTo W1 wr base p v (l ++ numsB L)) := hTj
        clear hTj
        go_wp2
        go_meet
        exact HTj.out
  case rest =>
    have hT2 : WTo W1 wc base p v (l ++ numsB L) := hcut
    have d9 := hT2.cell hbp hvp m9
    have d10 := hT2.cell hbp hvp m10
    have HT2 : Hid (WTo W1 wc base p v (l ++ numsB L)) := hT2
    have HR2 : Hid ((l ++ numsB L).length + mb.size + 10 ≤ 140737488355328) := by
      show _ ≤ _
      have h1 := HLn.out
      have h2 := HRm.out
      rw [List.length_append]
      omega
    have HR3 : Hid ((l ++ numsB L ++ textB mb.data.toList).length + 10 ≤ 140737488355328 ∧ (l ++ numsB L ++ textB mb.data.toList ++ numB en.length).length ≤ l.length + mb.size + 120) := by
      have h1 := HLn.out
      have h2 := HRm.out
      have h3 : (textB mb.data.toList).length ≤ mb.size + 10 := by
        unfold textB
        have h4 : mb.data.toList.length = mb.size := by first | rfl | simp
        have := numB_len10 (n := mb.data.toList.length) (by omega)
        rw [List.length_append]
        omega
      have h5 := numB_len10 (n := en.length) (by omega)
      simp only [List.length_append] at *
      constructor <;> omega
    clear hT2 hcut HT
    go_upto_block 2 with (first
      | (go_at_call 37; refine (wtext_v mb HT2.out HR2.out).mono ?_; rintro r w5 ⟨rfl, hT5⟩; have f10 := hT5.cell hbp hvp m10; have HT5 : Hid (WTo W1 w5 base p v (l ++ numsB L ++ textB mb.data.toList)) := hT5; clear hT5)
      | (go_at_call 36; refine (wcount_w en.length HT5.out (by omega) HR3.out.1).mono ?_; rintro r w6 ⟨rfl, hT6⟩; have g10 := hT6.cell hbp hvp m10; have HT6 : Hid (WTo W1 w6 base p v (l ++ numsB L ++ textB mb.data.toList ++ numB en.length)) := hT6; clear hT6))
    have HVm2 : Hid (l ++ vmB ⟨k, fr, tt, vw, nm, ix, cm, bi, bv, mb, en⟩ = l ++ numsB L ++ textB mb.data.toList ++ numB en.length ++ en.flatMap entB) := by show _ = _; rw [HVm.out]; simp only [List.append_assoc]
    obtain ⟨pre, hpre⟩ : ∃ pre, l ++ numsB L ++ textB mb.data.toList ++ numB en.length = pre := ⟨_, rfl⟩
    have hpl : pre.length ≤ l.length + mb.size + 120 := by rw [← hpre]; exact HR3.out.2
    rw [hpre] at HT6 HVm2
    clear hpre d9 d10 HVm
    go_wp2
    go_loopw [48] (fun i wr => ∃ j : Nat, j ≤ en.length ∧ i = .int .i64 j ∧ WTo W1 wr base p v (pre ++ (en.take j).flatMap entB)) (fun i _ => en.length - (intOf i).toNat)
    case atStart => exact ⟨0, Nat.zero_le _, rfl, by rw [List.take_zero]; simpa using HT6.out⟩
    case round =>
      obtain ⟨j, hj, rfl, hTj⟩ := hrel
      by_cases hlt : j < en.length
      · obtain ⟨b, off, rfl, n1, n2, hc⟩ := HEc.out (by omega)
        obtain ⟨e0, e1⟩ := hc j hlt
        have c0 := hTj.cell n1 n2 e0
        have c1 := hTj.cell n1 n2 e1
        have HS : Hid _ := entsB_snoc en j hlt
        have HX : Hid (en[j].v ≤ 9223372036854775807) := HEv.out _ (List.getElem_mem _)
        have HRj : Hid ((pre ++ (en.take j).flatMap entB).length + en[j].s.size + 30 ≤ 140737488355328) := by
          show _ ≤ _
          have h2 := HRm.out
          have h1 := ents_take en HEv.out (by omega) j (by omega)
          have h3 := entsN_take en j hlt
          rw [List.length_append]
          omega
        generalize en[j] = y at c0 c1 HS HX HRj
        have HTj : Hid (WTo W1 (wr.alloc (.cells #[.int .i64 y.v, .string y.s] 31)) base p v (pre ++ (en.take j).flatMap entB)) := hTj.alloc _
        have hjI : (j : Int) < en.length := by omega
        have hj0 : (0 : Int) ≤ j := by omega
        clear hTj e0 e1 hc
        go_wp2_with (go_at_call 18; refine (putE_w y HTj.out HX.out HRj.out).mono ?_; rintro r w4 ⟨rfl, hT4⟩; have HT4 : Hid (WTo W1 w4 base p v (pre ++ (en.take j).flatMap entB ++ entB y)) := hT4; clear hT4)
        go_roundw
        case rel => exact ⟨j + 1, by omega, by go_num, by rw [HS.out, ← List.append_assoc]; exact HT4.out⟩
        case measure => simp [intOf]; omega
      · obtain rfl : j = en.length := by omega
        rw [List.take_length] at hTj
        have HTj : Hid (WTo W1 wr base p v (pre ++ en.flatMap entB)) := hTj
        clear hTj
        go_wp2
        go_end0
        exact ⟨rfl, by rw [HVm2.out]; exact HG.out _ _ HTj.out⟩
end Go.Proofs.Ytckjjajncgmddaa
