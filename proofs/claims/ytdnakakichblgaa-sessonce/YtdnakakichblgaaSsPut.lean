/- Put: a table as bytes. -/
import Derived.Test.YtdnakakichblgaaSsTab
import Derived.Test.YtdnakakichblgaaWTo
import Derived.Test.YtdnakakichblgaaFrameW
namespace Go.Proofs.Ytdnakakichblgaa
open Go.RowKit
attribute [local go_sem] Oper.semAt_some
def reqB (x : Req) : List UInt8 := sgB x.k ++ numB x.n.toNat ++ textB x.s.data.toList
def tabB (L : List Req) : List UInt8 := numB L.length ++ L.flatMap reqB
/-- How many bytes the requests have at most. -/
def reqsN (L : List Req) : Nat := (L.map fun e => e.s.size + 40).sum
theorem wcount_s {w0 w : World} {base p : Nat} {v : Value} {l : List UInt8} (n : Int) (h : WTo w0 w base p v l) (hn : n ≤ 9223372036854775807) (hroom : l.length + 10 ≤ 140737488355328) :
    Calls Try.prog 33 #[.pointer (some ⟨p, 0, none⟩), .int .i64 n] w fun r w' => r = .returned (.tuple #[]) ∧ WTo w0 w' base p v (l ++ numB n.toNat) := by
  obtain ⟨v1, hw, hf, hr⟩ := h
  exact (wcount_any n hw hn hroom).mono fun r w' ⟨h1, h2⟩ => ⟨h1, WTo.then hf hr h2⟩
theorem wtext_s {w0 w : World} {base p : Nat} {v : Value} {l : List UInt8} (s : ByteArray) (h : WTo w0 w base p v l) (hroom : l.length + s.size + 10 ≤ 140737488355328) :
    Calls Try.prog 35 #[.pointer (some ⟨p, 0, none⟩), .string s] w fun r w' => r = .returned (.tuple #[]) ∧ WTo w0 w' base p v (l ++ textB s.data.toList) := by
  obtain ⟨v1, hw, hf, hr⟩ := h
  exact (wtext_any s hw hroom).mono fun r w' ⟨h1, h2⟩ => ⟨h1, WTo.then hf hr h2⟩
/-- What a writer writes is no block of a table. -/
theorem TA.apart {w : World} {B p : Nat} {v : Value} {L : List Req} {base pw : Nat} {vw : Value} {l : List UInt8} (h : TA w B p v L) (hw : Wr w base pw vw l) : p ≠ pw ∧ vw.ownBlock ≠ some p ∧ ∀ k, v.ownBlock = some k → k ≠ pw ∧ vw.ownBlock ≠ some k := by
  refine ⟨fun e => ?_, fun e => ?_, fun k hk => ⟨fun e => ?_, fun e => ?_⟩⟩
  · have h1 := h.box
    rw [e, hw.blk] at h1
    simp at h1
  · obtain ⟨_, c, f, h1⟩ := srow_tag hw.own e
    rw [h.box] at h1
    simp at h1
  · obtain ⟨_, c, f, h1⟩ := srow_tag h.row hk
    rw [e, hw.blk] at h1
    simp at h1
  · obtain ⟨_, c, f, h1⟩ := srow_tag h.row hk
    obtain ⟨_, c2, f2, h2⟩ := srow_tag hw.own e
    rw [h1] at h2
    simp at h2
theorem TA.wrote {w w' : World} {B p : Nat} {v : Value} {L : List Req} {base pw : Nat} {vw : Value} {l l' : List UInt8} (h : TA w B p v L) (hw : Wr w base pw vw l) (hT : WTo w w' base pw vw l') : TA w' B p v L := by
  obtain ⟨v1, _, hf, _⟩ := hT
  obtain ⟨a1, a2, a3⟩ := h.apart hw
  exact h.kept hf (fun e => e.elim a1 a2) (fun k hk e => e.elim (a3 k hk).1 (a3 k hk).2)
set_option maxRecDepth 100000 in
theorem sput_nil {w : World} {base pw : Nat} {vw : Value} {l : List UInt8} (hw : Wr w base pw vw l) (hroom : l.length + 10 ≤ 140737488355328) : Calls Try.prog 15 #[.pointer none, .pointer (some ⟨pw, 0, none⟩)] w fun r w' => r = .returned (.tuple #[]) ∧ WTo w w' base pw vw (l ++ numB 0) := by
  have hC := wcount_s 0 (WTo.refl hw) (by omega) hroom
  clear hw
  go_enter Try.func15, Try.ntmps15
  go_wp2_with (first
    | (go_at_call 13; refine (slen_nil _).mono ?_; rintro r w ⟨rfl, rfl⟩)
    | (go_at_call 33; refine hC.mono ?_; rintro r w1 ⟨rfl, hT1⟩))
  first
    | go_end0
    | refine bodyPost_ret (results_none rfl _ _ _) rfl ?_
  exact ⟨rfl, hT1⟩
theorem reqsB_snoc (L : List Req) (j : Nat) (h : j < L.length) : (L.take (j + 1)).flatMap reqB = (L.take j).flatMap reqB ++ reqB L[j] := by
  rw [List.take_succ_eq_append_getElem h, List.flatMap_append]
  simp
theorem reqB_len (x : Req) (hk : I64 x.k) (hn : x.n ≤ 9223372036854775807) (hs : x.s.size ≤ 140737488355328) : (reqB x).length ≤ x.s.size + 40 := by
  have h1 : (sgB x.k).length ≤ 10 := sgB_len hk
  have h2 : (numB x.n.toNat).length ≤ 10 := numB_len10 (by omega)
  have h3 : (textB x.s.data.toList).length ≤ x.s.size + 10 := (textB_len x.s (by omega)).1
  unfold reqB
  rw [List.length_append, List.length_append]
  omega
theorem reqsN_take (L : List Req) (j : Nat) (h : j < L.length) : reqsN (L.take j) + L[j].s.size + 40 ≤ reqsN L := by
  induction L generalizing j with
  | nil => simp at h
  | cons x L ih =>
    cases j with
    | zero => simp [reqsN]
    | succ j =>
      have := ih j (by simpa using h)
      simp only [List.take_succ_cons, List.getElem_cons_succ]
      unfold reqsN at this ⊢
      simp only [List.map_cons, List.sum_cons]
      omega
theorem reqs_len (L : List Req) (h : ∀ x ∈ L, I64 x.k ∧ x.n ≤ 9223372036854775807 ∧ x.s.size ≤ 140737488355328) : (L.flatMap reqB).length ≤ reqsN L := by
  induction L with
  | nil => simp [reqsN]
  | cons x L ih =>
    obtain ⟨a, b, c⟩ := h x (by simp)
    have h1 := reqB_len x a b c
    have h2 := ih (fun y hy => h y (List.mem_cons_of_mem _ hy))
    unfold reqsN at h2 ⊢
    rw [List.flatMap_cons, List.length_append, List.map_cons, List.sum_cons]
    omega
set_option maxRecDepth 100000 in
set_option maxHeartbeats 2000000 in
theorem sput {w : World} {B p : Nat} {v : Value} {L : List Req} {base pw : Nat} {vw : Value} {l : List UInt8} (h : TA w B p v L) (hw : Wr w base pw vw l) (hL : L.length ≤ 1000000) (hok : ∀ x ∈ L, I64 x.k ∧ x.n ≤ 9223372036854775807 ∧ x.s.size ≤ 140737488355328) (hroom : l.length + 10 + reqsN L ≤ 140737488355328) : Calls Try.prog 15 #[.pointer (some ⟨p, 0, none⟩), .pointer (some ⟨pw, 0, none⟩)] w fun r w' => r = .returned (.tuple #[]) ∧ WTo w w' base pw vw (l ++ tabB L) := by
  have hC := wcount_s L.length (WTo.refl hw) (by omega) (by omega)
  have hS := slen h
  have HT : Hid (TA w B p v L) := h
  have HW : Hid (Wr w base pw vw l) := hw
  have HO : Hid (∀ x ∈ L, I64 x.k ∧ x.n ≤ 9223372036854775807 ∧ x.s.size ≤ 140737488355328) := hok
  have HRm : Hid (l.length + 10 + reqsN L ≤ 140737488355328) := hroom
  clear h hw hok hroom
  go_enter Try.func15, Try.ntmps15
  go_upto_region 2 with (first
    | (go_at_call 13; refine hS.mono ?_; rintro r w ⟨rfl, rfl⟩)
    | (go_at_call 33; refine hC.mono ?_; rintro r w1 ⟨rfl, hT1⟩))
  have HT1 : Hid (WTo w w1 base pw vw (l ++ numB ((L.length : Int)).toNat)) := hT1
  have c0 := (HT.out.wrote HW.out hT1).c0
  obtain ⟨ao, c, rfl, hcap, hao⟩ := HT.out.row.shape
  have HA : Hid (0 < L.length → ∃ g, ao = some ⟨g, 0, none⟩) := hao
  clear hT1 hC hS hcap hao
  go_wp2
  go_loopw [17] (fun i wr => ∃ (j : Nat), j ≤ L.length ∧ i = .int .i64 j ∧ Hid (WTo w wr base pw vw (l ++ numB L.length ++ (L.take j).flatMap reqB))) (fun i _ => L.length - (intOf i).toNat)
  case atStart => exact ⟨0, Nat.zero_le _, rfl, by have := HT1.out; show WTo _ _ _ _ _ _; simpa using this⟩
  case round =>
    obtain ⟨j, hj, rfl, HJ⟩ := hrel
    by_cases hlt : j < L.length
    · obtain ⟨g, rfl⟩ := HA.out (by omega)
      have HTj : Hid (TA wr B p (.slice (some ⟨g, 0, none⟩) L.length c) L) := HT.out.wrote HW.out HJ.out
      obtain ⟨e0, e1, e2⟩ := HTj.out.row.at_ j hlt
      have HX := HO.out L[j] (List.getElem_mem hlt)
      have HN := reqsN_take L j hlt
      have HLn : ((L.take j).flatMap reqB).length ≤ reqsN (L.take j) := reqs_len _ (fun x hx => HO.out x (List.mem_of_mem_take hx))
      have HSn : Hid ((L.take (j + 1)).flatMap reqB = (L.take j).flatMap reqB ++ reqB L[j]) := reqsB_snoc L j hlt
      generalize L[j] = x at e0 e1 e2 HX HN HSn
      obtain ⟨v1, hw1, hf1, hr1⟩ := HJ.out
      have hjn : (j : Int) < L.length := by omega
      go_upto_region 5 with (fail)
      generalize hW0 : World.alloc _ _ = W0
      have hT := WTo.refl (hw1.al (.cells #[.int .i64 x.k, .int .i64 x.n, .string x.s] 60))
      have hb : W0.heap[wr.heap.size]? = some (.cells #[.int .i64 x.k, .int .i64 x.n, .string x.s] 60 (0, 0)) := by rw [← hW0]; exact heap_alloc_new _ _
      have eW : wr.alloc (.cells #[.int .i64 x.k, .int .i64 x.n, .string x.s] 60) = W0 := hW0
      rw [eW] at hT
      have HG : Hid (∀ w' l', WTo W0 w' base pw v1 l' → WTo w w' base pw vw l') := fun w' l' h' => by rw [← eW] at h'; exact WTo.then hf1 hr1 h'.fromAlloc
      have hbp : wr.heap.size ≠ pw := by have := hw1.lt; omega
      have hvp : v1.ownBlock ≠ some wr.heap.size := fun e => by have := hw1.olt _ e; omega
      obtain ⟨q0, q1, q2, _, _, _⟩ := sbox3 hb
      generalize wr.heap.size = q at hb hbp hvp q0 q1 q2 ⊢
      have HK : Hid (I64 x.k) := HX.1
      have HV : Hid (x.n ≤ 9223372036854775807) := HX.2.1
      have hl1 : (numB L.length).length ≤ 10 := numB_len10 (by omega)
      have hl2 : (sgB x.k).length ≤ 10 := sgB_len HX.1
      have hl3 : (numB x.n.toNat).length ≤ 10 := numB_len10 (by have := HX.2.1; omega)
      have hrm := HRm.out
      have HR1 : Hid ((l ++ numB L.length ++ (L.take j).flatMap reqB).length + 10 ≤ 140737488355328) := by show _ ≤ _; rw [List.length_append, List.length_append]; omega
      have HR2 : Hid ((l ++ numB L.length ++ (L.take j).flatMap reqB ++ sgB x.k).length + 10 ≤ 140737488355328) := by show _ ≤ _; rw [List.length_append, List.length_append, List.length_append]; omega
      have HR3 : Hid ((l ++ numB L.length ++ (L.take j).flatMap reqB ++ sgB x.k ++ numB x.n.toNat).length + x.s.size + 10 ≤ 140737488355328) := by show _ ≤ _; rw [List.length_append, List.length_append, List.length_append, List.length_append]; omega
      have HT0 : Hid (WTo W0 W0 base pw v1 (l ++ numB L.length ++ (L.take j).flatMap reqB)) := hT
      clear hT hb hW0 eW hw1 hf1 hr1 HX HN HLn hl1 hl2 hl3 hrm e0 e1 e2 c0
      go_wp2_with (first
        | (go_at_call 34; refine (wsigned_w x.k HT0.out HK.out HR1.out).mono ?_; rintro r w2 ⟨rfl, hT2⟩; have c1 := hT2.cell hbp hvp q1; have c2 := hT2.cell hbp hvp q2; have HT2 : Hid (WTo W0 w2 base pw v1 (l ++ numB L.length ++ (L.take j).flatMap reqB ++ sgB x.k)) := hT2; clear hT2)
        | (go_at_call 33; refine (wcount_s x.n HT2.out HV.out HR2.out).mono ?_; rintro r w3 ⟨rfl, hT3⟩; have c3 := hT3.cell hbp hvp q2; have HT3 : Hid (WTo W0 w3 base pw v1 (l ++ numB L.length ++ (L.take j).flatMap reqB ++ sgB x.k ++ numB x.n.toNat)) := hT3; clear hT3)
        | (go_at_call 35; refine (wtext_s x.s HT3.out HR3.out).mono ?_; rintro r w4 ⟨rfl, hT4⟩))
      go_roundw
      case rel => exact ⟨j + 1, by omega, by go_num, by rw [HSn.out]; unfold reqB; rw [← List.append_assoc, ← List.append_assoc, ← List.append_assoc]; exact HG.out _ _ hT4⟩
      case measure => simp [intOf]; omega
    · have hjl : ¬ (j : Int) < L.length := by omega
      have HE : Hid (j = L.length) := by show _ = _; omega
      have HF : Hid (WTo w wr base pw vw (l ++ tabB L)) := by
        have := HJ.out
        rw [HE.out, List.take_of_length_le (Nat.le_refl _), List.append_assoc] at this
        exact this
      go_wp2
      go_end0
      exact ⟨rfl, HF.out⟩
end Go.Proofs.Ytdnakakichblgaa
