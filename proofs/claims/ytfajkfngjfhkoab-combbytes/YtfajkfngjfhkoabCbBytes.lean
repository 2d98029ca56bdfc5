/- PutMessages: messages' bytes behind a writer's. -/
import Derived.Test.YtfajkfngjfhkoabWTo
import Derived.Test.YtfajkfngjfhkoabCbPut
namespace Go.Proofs.Ytfajkfngjfhkoab
open Go.RowKit
def msB (m : Msg) : List UInt8 := sgB m.f ++ sgB m.t ++ numB m.a.toNat ++ sgB m.v
def msgsB (L : List Msg) : List UInt8 := numB L.length ++ L.flatMap msB
theorem msB_len {m : Msg} (h : m.ok) : (msB m).length ≤ 40 := by
  unfold msB
  have h1 := sgB_len h.f
  have h2 := sgB_len h.t
  have h3 := numB_len10 (n := m.a.toNat) (by have := h.a.2; omega)
  have h4 := sgB_len h.v
  simp only [List.length_append]
  omega
theorem mssB_len (L : List Msg) (h : ∀ m ∈ L, m.ok) : (L.flatMap msB).length ≤ 40 * L.length := by
  induction L with
  | nil => simp
  | cons m L ih =>
    have h1 := msB_len (h m (by simp))
    have h2 := ih (fun x hx => h x (by simp [hx]))
    rw [List.flatMap_cons, List.length_append, List.length_cons]
    omega
theorem ms_snoc (L : List Msg) (k : Nat) (h : k < L.length) : (L.take (k + 1)).flatMap msB = (L.take k).flatMap msB ++ msB L[k] := by
  rw [List.take_succ_eq_append_getElem h, List.flatMap_append]; simp
theorem wcount_i {w0 w : World} {base p : Nat} {v : Value} {l : List UInt8} (n : Int) (h : WTo w0 w base p v l) (hn : n ≤ 9223372036854775807) (hroom : l.length + 10 ≤ 140737488355328) :
    Calls Try.prog 25 #[.pointer (some ⟨p, 0, none⟩), .int .i64 n] w fun r w' => r = .returned (.tuple #[]) ∧ WTo w0 w' base p v (l ++ numB n.toNat) := by
  obtain ⟨v1, hw, hf, hr⟩ := h
  exact (wcount_any n hw hn hroom).mono fun r w' ⟨h1, h2⟩ => ⟨h1, WTo.then hf hr h2⟩
theorem ms_rooms {l : List UInt8} {L : List Msg} (hok : ∀ m ∈ L, m.ok) (hl : L.length ≤ 9223372036854775807) (hroom : l.length + 10 + 40 * L.length ≤ 140737488355328) : l.length + 10 ≤ 140737488355328 ∧
    ∀ j (h : j < L.length), (l ++ numB L.length ++ (L.take j).flatMap msB).length + 10 ≤ 140737488355328 ∧ (l ++ numB L.length ++ (L.take j).flatMap msB ++ sgB L[j].f).length + 10 ≤ 140737488355328 ∧ (l ++ numB L.length ++ (L.take j).flatMap msB ++ sgB L[j].f ++ sgB L[j].t).length + 10 ≤ 140737488355328 ∧ (l ++ numB L.length ++ (L.take j).flatMap msB ++ sgB L[j].f ++ sgB L[j].t ++ numB L[j].a.toNat).length + 10 ≤ 140737488355328 := by
  refine ⟨by omega, fun j h => ?_⟩
  have h1 := numB_len10 (n := L.length) (by omega)
  have h2 := mssB_len (L.take j) (fun v hv => hok v (List.mem_of_mem_take hv))
  have hz := hok _ (List.getElem_mem h)
  have h3 := sgB_len hz.f
  have h4 := sgB_len hz.t
  have h5 := numB_len10 (n := L[j].a.toNat) (by have := hz.a.2; omega)
  rw [List.length_take] at h2
  simp only [List.length_append]
  omega
set_option maxRecDepth 100000 in
set_option maxHeartbeats 2000000 in
theorem putM_any {w : World} {base p : Nat} {v : Value} {l : List UInt8} {ao : Option Addr} (L : List Msg) (cap : Nat) (h : Wr w base p v l) (hE : MsAt w (fun k => k ≠ p ∧ v.ownBlock ≠ some k) ao L) (hok : ∀ m ∈ L, m.ok) (hl : L.length ≤ 9223372036854775807) (hroom : l.length + 10 + 40 * L.length ≤ 140737488355328) :
    Calls Try.prog 7 #[.pointer (some ⟨p, 0, none⟩), .slice ao L.length cap] w fun r w' => r = .returned (.tuple #[]) ∧ WTo w w' base p v (l ++ msgsB L) := by
  obtain ⟨r0, r3⟩ := ms_rooms hok hl hroom
  have H0 : Hid _ := r0
  have H3 : Hid _ := r3
  have HB : Hid (l ++ msgsB L = l ++ numB L.length ++ L.flatMap msB) := by show _ = _; unfold msgsB; simp only [List.append_assoc]
  have HO : Hid (∀ m ∈ L, m.ok) := hok
  have hT0 : WTo w w base p v l := WTo.refl h
  have HT0 : Hid _ := hT0
  have HE : Hid _ := hE
  clear r0 r3 hroom hok h hE hT0
  go_enter Try.func7, Try.ntmps7
  go_wp2_with (go_at_call 25; refine (wcount_w L.length HT0.out hl H0.out).mono ?_; rintro r w1 ⟨rfl, hT⟩; have HT : Hid _ := hT; clear hT)
  go_loopw [5, 12] (fun _ i wr => ∃ j : Nat, j ≤ L.length ∧ i = .int .i64 j ∧ WTo w wr base p v (l ++ numB L.length ++ (L.take j).flatMap msB)) (fun _ i _ => L.length - (intOf i).toNat)
  case atStart => exact ⟨0, Nat.zero_le _, rfl, by rw [List.take_zero, List.flatMap_nil, List.append_nil]; exact HT.out⟩
  case round =>
    obtain ⟨j, hj, rfl, hTj⟩ := hrel
    by_cases hlt : j < L.length
    · obtain ⟨b, off, rfl, hP, hc⟩ := HE.out (by omega)
      obtain ⟨e0, e1, e2, e3⟩ := hc j hlt
      have d0 := hTj.cell hP.1 hP.2 e0
      have d1 := hTj.cell hP.1 hP.2 e1
      have d2 := hTj.cell hP.1 hP.2 e2
      have d3 := hTj.cell hP.1 hP.2 e3
      have HR : Hid _ := H3.out j hlt
      have HZ : Hid (L[j].ok) := HO.out _ (List.getElem_mem hlt)
      have HS : Hid _ := ms_snoc L j hlt
      generalize L[j] = z at d0 d1 d2 d3 HR HZ HS
      obtain ⟨vj, hwj, hfj, hrj⟩ := hTj
      have hbj : wr.heap.size ≠ p := by have := hwj.lt; omega
      have hvj : vj.ownBlock ≠ some wr.heap.size := fun e => by have := hwj.olt _ e; omega
      have hza : z.a ≤ 9223372036854775807 := HZ.out.a.2
      obtain ⟨Wj, hWj⟩ : ∃ Wj, wr.alloc (.cells #[.int .i64 z.f, .int .i64 z.t, .int .i64 z.a, .int .i64 z.v] 24) = Wj := ⟨_, rfl⟩
      have hTT := WTo.refl (hwj.al (.cells #[.int .i64 z.f, .int .i64 z.t, .int .i64 z.a, .int .i64 z.v] 24))
      obtain ⟨q0, q1, q2, q3⟩ := m_cells (show Wj.heap[wr.heap.size]? = _ by rw [← hWj]; exact heap_alloc_new _ _)
      rw [hWj] at hTT
      have HG : Hid (∀ w' l', WTo Wj w' base p vj l' → WTo w w' base p v l') := fun w' l' h' => by rw [← hWj] at h'; exact WTo.then hfj hrj h'.fromAlloc
      have tk1 : Hid True := trivial
      clear hc hwj hfj hrj HT HT0 e0 e1 e2 e3
      go_wp2_with (first
        | (go_at_call 26; first
          | (have _t := tk1; refine (wsigned_w z.f hTT HZ.out.f HR.out.1).mono ?_; rintro r w1 ⟨rfl, hT1⟩; have c1 := hT1.cell hbj hvj q1; clear tk1; have tk2 : Hid True := trivial)
          | (have _t := tk2; refine (wsigned_w z.t hT1 HZ.out.t HR.out.2.1).mono ?_; rintro r w2 ⟨rfl, hT2⟩; have c2 := hT2.cell hbj hvj q2; clear tk2)
          | (refine (wsigned_w z.v hT3 HZ.out.v HR.out.2.2.2).mono ?_; rintro r w4 ⟨rfl, hT4⟩))
        | (go_at_call 25; refine (wcount_i z.a hT2 hza HR.out.2.2.1).mono ?_; rintro r w3 ⟨rfl, hT3⟩; have c3 := hT3.cell hbj hvj q3))
      go_roundw
      case rel => exact ⟨j + 1, by omega, by go_num, HG.out _ _ (by rw [HS.out, show msB z = sgB z.f ++ sgB z.t ++ numB z.a.toNat ++ sgB z.v from rfl]; simpa only [List.append_assoc] using hT4)⟩
      case measure => simp [intOf]; omega
    · obtain rfl : j = L.length := by omega
      rw [List.take_length] at hTj
      have HTj : Hid _ := hTj
      clear hTj
      go_wp2
      go_end0
      exact ⟨rfl, by rw [HB.out]; exact HTj.out⟩
end Go.Proofs.Ytfajkfngjfhkoab
