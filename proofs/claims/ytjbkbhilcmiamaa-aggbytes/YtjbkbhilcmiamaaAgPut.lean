/- What agg.Put puts. -/
import Derived.Test.YtjbkbhilcmiamaaAgMerge
import Derived.Test.YtjbkbhilcmiamaaGrPut
namespace Go.Proofs.Ytjbkbhilcmiamaa
open Go.RowKit
/-- A kind's bytes: a no, or a yes and the value. -/
def pbit (o : Nat → Option Int) (k : Nat) : List UInt8 :=
  match o k with
  | none => [0]
  | some v => 1 :: sgB v
/-- The first so many kinds' bytes. -/
def putK (o : Nat → Option Int) (k : Nat) : List UInt8 := (List.range k).flatMap (pbit o)
theorem putK_succ (o : Nat → Option Int) (k : Nat) : putK o (k + 1) = putK o k ++ pbit o k := by
  unfold putK
  rw [List.range_succ, List.flatMap_append]
  simp
theorem pbit_none {o : Nat → Option Int} {k : Nat} (h : o k = none) : pbit o k = [0] := by unfold pbit; rw [h]
theorem pbit_some {o : Nat → Option Int} {k : Nat} {v : Int} (h : o k = some v) : pbit o k = 1 :: sgB v := by unfold pbit; rw [h]
theorem i6_i64 {x : Int} (h : I6 x) : I64 x := h
theorem pbit_len {o : Nat → Option Int} (ho : OkO o) (k : Nat) : (pbit o k).length ≤ 11 := by
  cases e : o k with
  | none => rw [pbit_none e]; simp
  | some v => rw [pbit_some e]; have := sgB_len (i6_i64 (ho k v e)); simp; omega
theorem putK_len {o : Nat → Option Int} (ho : OkO o) : ∀ k, (putK o k).length ≤ 11 * k
  | 0 => by simp [putK]
  | k + 1 => by
    rw [putK_succ, List.length_append]
    have := putK_len ho k
    have := pbit_len ho k
    omega
theorem WTo.next {w w' w2 : World} {base p : Nat} {v : Value} {l : List UInt8} (h : WTo w w' base p v l) (hb : Below w'.heap.size w' w2) : WTo w w2 base p v l := by
  obtain ⟨v', hw, hf, hr⟩ := h
  have f : Fr w' w2 (fun k => w'.heap.size ≤ k) := ⟨hb.os, hb.tape, hb.output, hb.size, fun k _ hn => hb.block k (by omega)⟩
  refine ⟨v', hw.kept f (by have := hw.lt; omega) (fun k hk => by have := hw.olt k hk; omega), hf.trans f (fun k hk hS => ?_), hr⟩
  have := hf.size
  omega
theorem wbool_w {w0 w : World} {base p : Nat} {v : Value} {l : List UInt8} (b : Bool) (h : WTo w0 w base p v l) (hroom : l.length + 10 ≤ 140737488355328) :
    Calls Try.prog 39 #[.pointer (some ⟨p, 0, none⟩), .bool b] w fun r w' => r = .returned (.tuple #[]) ∧ WTo w0 w' base p v (l ++ numB b.toNat) := by
  obtain ⟨v1, hw, hf, hr⟩ := h
  exact (wbool_any b hw hroom).mono fun r w' ⟨h1, h2⟩ => ⟨h1, WTo.then hf hr h2⟩
set_option maxRecDepth 100000 in
set_option maxHeartbeats 2000000 in
theorem aput_any {w : World} {base p : Nat} {v : Value} {l : List UInt8} (o : Nat → Option Int) (h : Wr w base p v l) (ho : OkO o) (hroom : l.length + 100 ≤ 140737488355328) :
    Calls Try.prog 16 #[.pointer (some ⟨p, 0, none⟩), AO o] w fun r w' => r = .returned (.tuple #[]) ∧ WTo w w' base p v (l ++ putK o 5) := by
  have hbp : w.heap.size ≠ p := by have := h.lt; omega
  have hbv : v.ownBlock ≠ some w.heap.size := fun e => by have := h.olt _ e; omega
  have HO : Hid (OkO o) := ho
  have HL : Hid (∀ k, k ≤ 5 → (l ++ putK o k).length + 40 ≤ 140737488355328) := fun k hk => by have := putK_len ho k; rw [List.length_append]; omega
  obtain ⟨W0, hW0⟩ : ∃ W0, w.alloc (.cells (AOc o) 26) = W0 := ⟨_, rfl⟩
  have hT0 : WTo W0 W0 base p v l := by rw [← hW0]; exact WTo.refl (h.al _)
  obtain ⟨k0, k1, k2, k3, k4, k5, k6, k7, k8, k9⟩ := box_ao (show W0.heap[w.heap.size]? = some (.cells (AOc o) 26 (0, 0)) by rw [← hW0]; exact heap_alloc_new _ _)
  have HF : Hid (∀ w' l', WTo W0 w' base p v l' → WTo w w' base p v l') := fun w' l' h' => by rw [← hW0] at h'; exact h'.fromAlloc
  have HT0 : Hid _ := hT0
  clear h ho hroom hT0
  unfold AOc AC at hW0
  show Calls Try.prog 16 #[.pointer (some ⟨p, 0, none⟩), AG (oh o) (ov o)] w _
  unfold AG
  go_enter Try.func16, Try.ntmps16
  go_wp2
  go_loopw [7] (fun i wr => ∃ k : Nat, k ≤ 5 ∧ i = .int .i64 k ∧ WTo W0 wr base p v (l ++ putK o k)) (fun i _ => 5 - (intOf i).toNat)
  case atStart => exact ⟨0, Nat.zero_le _, rfl, by rw [show putK o 0 = [] from rfl, List.append_nil]; exact HT0.out⟩
  case round =>
    obtain ⟨k, hk, rfl, hT⟩ := hrel
    by_cases hlt : k < 5
    · have c0 := hT.cell hbp hbv k0
      have c1 := hT.cell hbp hbv k1
      have c2 := hT.cell hbp hbv k2
      have c3 := hT.cell hbp hbv k3
      have c4 := hT.cell hbp hbv k4
      have c5 := hT.cell hbp hbv k5
      have c6 := hT.cell hbp hbv k6
      have c7 := hT.cell hbp hbv k7
      have c8 := hT.cell hbp hbv k8
      have c9 := hT.cell hbp hbv k9
      have HT : Hid _ := hT
      clear hT k0 k1 k2 k3 k4 k5 k6 k7 k8 k9
      cases hv : o k with
      | none =>
        have HV : Hid _ := hv
        clear hv
        go_wp2_with (first
          | (go_at_call 11; refine (get_none (o := o) (by omega) HV.out _).mono ?_; rintro e w1 ⟨rfl, hb1⟩)
          | (go_at_call 39; refine (wbool_w false (WTo.next HT.out hb1) (by have := HL.out k hk; omega)).mono ?_; rintro e w2 ⟨rfl, hT2⟩))
        go_roundw
        case rel => exact ⟨k + 1, by omega, by go_num, by rw [putK_succ, pbit_none HV.out, ← List.append_assoc]; exact hT2⟩
        case measure => simp [intOf]; omega
      | some x =>
        have HV : Hid _ := hv
        have HI : Hid (I64 x) := HO.out _ _ hv
        clear hv
        go_wp2_with (first
          | (go_at_call 11; refine (get_some (o := o) (by omega) HV.out _).mono ?_; rintro e w1 ⟨rfl, hb1⟩)
          | (go_at_call 39; refine (wbool_w true (WTo.next HT.out hb1) (by have := HL.out k hk; omega)).mono ?_; rintro e w2 ⟨rfl, hT2⟩)
          | (go_at_call 40; refine (wsigned_w x hT2 HI.out (by have := HL.out k hk; rw [List.length_append]; simp [numB, numG]; simp at this; omega)).mono ?_; rintro e w3 ⟨rfl, hT3⟩))
        go_roundw
        case rel => exact ⟨k + 1, by omega, by go_num, by rw [putK_succ, pbit_some HV.out]; have e : l ++ (putK o k ++ 1 :: sgB x) = l ++ putK o k ++ numB true.toNat ++ sgB x := (by simp [numB, numG]); rw [e]; exact hT3⟩
        case measure => simp [intOf]; omega
    · obtain rfl : k = 5 := by omega
      go_wp2
      go_end0
      exact ⟨rfl, HF.out _ _ hT⟩
end Go.Proofs.Ytjbkbhilcmiamaa
