import Derived.Test.YtnhjflebaeokeaaGreatVwMayM
import Derived.Test.YtnhjflebaeokeaaGreatVwAtM
import Derived.Test.YtnhjflebaeokeaaGreatWToM
/- Entries and messages as bytes: what is written. -/
namespace Go.Proofs.YtnhjflebaeokeaaGreat
open Go.RowKit
def entB (e : Ent) : List UInt8 := numB e.v.toNat ++ textB e.s.data.toList
/-- How many bytes the entries have at most. -/
def entsN (L : List Ent) : Nat := (L.map fun e => e.s.size + 30).sum
theorem wcount_v {w0 w : World} {base p : Nat} {v : Value} {l : List UInt8} (n : Int) (h : WTo w0 w base p v l) (hn : n ≤ 9223372036854775807) (hroom : l.length + 10 ≤ 140737488355328) :
    Calls Tryz.prog 135 #[.pointer (some ⟨p, 0, none⟩), .int .i64 n] w fun r w' => r = .returned (.tuple #[]) ∧ WTo w0 w' base p v (l ++ numB n.toNat) := by
  obtain ⟨v1, hw, hf, hr⟩ := h
  exact (wcount_any n hw hn hroom).mono fun r w' ⟨h1, h2⟩ => ⟨h1, WTo.then hf hr h2⟩
theorem wtext_v {w0 w : World} {base p : Nat} {v : Value} {l : List UInt8} (s : ByteArray) (h : WTo w0 w base p v l) (hroom : l.length + s.size + 10 ≤ 140737488355328) :
    Calls Tryz.prog 136 #[.pointer (some ⟨p, 0, none⟩), .string s] w fun r w' => r = .returned (.tuple #[]) ∧ WTo w0 w' base p v (l ++ textB s.data.toList) := by
  obtain ⟨v1, hw, hf, hr⟩ := h
  exact (wtext_any s hw hroom).mono fun r w' ⟨h1, h2⟩ => ⟨h1, WTo.then hf hr h2⟩
theorem vnumB_len {n : Int} (h : n ≤ 9223372036854775807) : (numB n.toNat).length ≤ 10 := numB_len10 (by omega)
set_option maxRecDepth 100000 in
set_option maxHeartbeats 1000000 in
theorem putE_w {w0 w : World} {base p : Nat} {v : Value} {l : List UInt8} (e : Ent) (h : WTo w0 w base p v l) (hv : e.v ≤ 9223372036854775807) (hroom : l.length + e.s.size + 30 ≤ 140737488355328) :
    Calls Tryz.prog 138 #[.pointer (some ⟨p, 0, none⟩), .agg #[.int .i64 e.v, .string e.s]] w fun r w' => r = .returned (.tuple #[]) ∧ WTo w0 w' base p v (l ++ entB e) := by
  obtain ⟨ev, es⟩ := e
  obtain ⟨v1, hw, hf, hr⟩ := h
  have hbp : w.heap.size ≠ p := by have := vlt_blk hw.blk; omega
  have hvp : v1.ownBlock ≠ some w.heap.size := fun e => by have := hw.olt _ e; omega
  obtain ⟨W0, hW0⟩ : ∃ W0, w.alloc (.cells #[.int .i64 ev, .string es] 106) = W0 := ⟨_, rfl⟩
  have hT := WTo.refl (hw.al (.cells #[.int .i64 ev, .string es] 106))
  have hb : W0.heap[w.heap.size]? = some (.cells #[.int .i64 ev, .string es] 106 (0, 0)) := by rw [← hW0]; exact heap_alloc_new _ _
  have q0 : W0.cell? ⟨w.heap.size, 0, none⟩ = some (.int .i64 ev) := by simp [World.cell?, hb]
  have q1 : W0.cell? ⟨w.heap.size, 1, none⟩ = some (.string es) := by simp [World.cell?, hb]
  rw [hW0] at hT
  have HG : Hid (∀ w' l', WTo W0 w' base p v1 l' → WTo w0 w' base p v l') := fun w' l' h' => by rw [← hW0] at h'; exact WTo.then hf hr h'.fromAlloc
  have hr2 : l.length + 10 ≤ 140737488355328 := by omega
  have HRm : Hid ((l ++ numB ev.toNat).length + es.size + 10 ≤ 140737488355328) := by
    show _ ≤ _
    have := vnumB_len (n := ev) hv
    rw [List.length_append]
    simp only at hroom
    omega
  have HV : Hid (ev ≤ 9223372036854775807) := hv
  clear hw hf hr hb hroom hv
  go_enter Tryz.func138, Tryz.ntmps138
  go_wp2_with (first
    | (go_at_call 135; refine (wcount_v ev hT HV.out hr2).mono ?_; rintro r w1 ⟨rfl, hT1⟩; have c1 := hT1.cell hbp hvp q1)
    | (go_at_call 136; refine (wtext_v es hT1 HRm.out).mono ?_; rintro r w2 ⟨rfl, hT2⟩))
  go_end0
  refine ⟨rfl, HG.out _ _ ?_⟩
  show WTo W0 w2 base p v1 (l ++ (numB ev.toNat ++ textB es.data.toList))
  rw [← List.append_assoc]
  exact hT2
theorem entsB_snoc (L : List Ent) (j : Nat) (h : j < L.length) : (L.take (j + 1)).flatMap entB = (L.take j).flatMap entB ++ entB L[j] := by
  rw [List.take_succ_eq_append_getElem h, List.flatMap_append]
  simp
theorem entB_len (e : Ent) (h : e.v ≤ 9223372036854775807) (hs : e.s.size ≤ 140737488355328) : (entB e).length ≤ e.s.size + 30 := by
  have h1 := vnumB_len h
  have h2 : (textB e.s.data.toList).length ≤ e.s.size + 10 := by
    unfold textB
    have := numB_len10 (n := e.s.data.toList.length) (by simp; show e.s.size < _; omega)
    rw [List.length_append]
    have : e.s.data.toList.length = e.s.size := by first | rfl | simp
    omega
  unfold entB
  rw [List.length_append]
  omega
theorem entsN_take (L : List Ent) (j : Nat) (hj : j < L.length) : entsN (L.take j) + (L[j].s.size + 30) ≤ entsN L := by
  have e2 : entsN (L.take (j + 1)) = entsN (L.take j) + (L[j].s.size + 30) := by
    unfold entsN
    rw [List.take_succ_eq_append_getElem hj, List.map_append, List.sum_append]
    simp
  have e3 : entsN L = entsN (L.take (j + 1)) + entsN (L.drop (j + 1)) := by
    unfold entsN
    rw [← List.sum_append, ← List.map_append, List.take_append_drop]
  omega
theorem ents_take (L : List Ent) (h : ∀ e ∈ L, e.v ≤ 9223372036854775807) (hn : entsN L ≤ 1000000000) : ∀ j, j ≤ L.length → ((L.take j).flatMap entB).length ≤ entsN (L.take j) := by
  have hsz : ∀ e ∈ L, e.s.size ≤ 140737488355328 := fun e he => by
    obtain ⟨j, hj, rfl⟩ := List.getElem_of_mem he
    have := entsN_take L j hj
    omega
  intro j
  induction j with
  | zero => intro _; simp [entsN]
  | succ j ih =>
    intro hj
    have h1 := ih (by omega)
    have hlt : j < L.length := by omega
    have h2 := entB_len L[j] (h _ (List.getElem_mem hlt)) (hsz _ (List.getElem_mem hlt))
    have e2 : entsN (L.take (j + 1)) = entsN (L.take j) + (L[j].s.size + 30) := by
      unfold entsN
      rw [List.take_succ_eq_append_getElem hlt, List.map_append, List.sum_append]
      simp
    rw [entsB_snoc L j hlt, List.length_append, e2]
    omega
end Go.Proofs.YtnhjflebaeokeaaGreat
