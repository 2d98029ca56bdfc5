/- Put: requests' bytes behind a writer's. -/
import Derived.Test.YthnhmhjcpdomcaaWTo
import Derived.Test.YthnhmhjcpdomcaaMuThat
import Derived.Test.YthnhmhjcpdomcaaGrPut
namespace Go.Proofs.Ythnhmhjcpdomcaa
open Go.RowKit
theorem u_cellsP {W : World} {b : Nat} {t : TypeId} {f : Nat × Nat} {a0 a1 a2 a3 : Value} (h : W.heap[b]? = some (.cells #[a0, a1, a2, a3] t f)) : W.cell? ⟨b, 0, none⟩ = some a0 ∧ W.cell? ⟨b, 1, none⟩ = some a1 ∧ W.cell? ⟨b, 2, none⟩ = some a2 ∧ W.cell? ⟨b, 3, none⟩ = some a3 := by simp [World.cell?, h]
def muB (m : Mu) : List UInt8 := numB m.k.toNat ++ sgB m.i ++ sgB m.t ++ sgB m.v
def musB (L : List Mu) : List UInt8 := numB L.length ++ L.flatMap muB
theorem muB_len {m : Mu} (h : m.ok) : (muB m).length ≤ 40 := by
  unfold muB
  have h1 := sgB_len h.i
  have h2 := sgB_len h.t
  have h3 := numB_len10 (n := m.k.toNat) (by have := h.k.2; omega)
  have h4 := sgB_len h.v
  simp only [List.length_append]
  omega
theorem ussB_len (L : List Mu) (h : ∀ m ∈ L, m.ok) : (L.flatMap muB).length ≤ 40 * L.length := by
  induction L with
  | nil => simp
  | cons m L ih =>
    have h1 := muB_len (h m (by simp))
    have h2 := ih (fun x hx => h x (by simp [hx]))
    rw [List.flatMap_cons, List.length_append, List.length_cons]
    omega
theorem us_snoc (L : List Mu) (k : Nat) (h : k < L.length) : (L.take (k + 1)).flatMap muB = (L.take k).flatMap muB ++ muB L[k] := by
  rw [List.take_succ_eq_append_getElem h, List.flatMap_append]; simp
theorem wcount_iU {w0 w : World} {base p : Nat} {v : Value} {l : List UInt8} (n : Int) (h : WTo w0 w base p v l) (hn : n ≤ 9223372036854775807) (hroom : l.length + 10 ≤ 140737488355328) :
    Calls Try.prog 55 #[.pointer (some ⟨p, 0, none⟩), .int .i64 n] w fun r w' => r = .returned (.tuple #[]) ∧ WTo w0 w' base p v (l ++ numB n.toNat) := by
  obtain ⟨v1, hw, hf, hr⟩ := h
  exact (wcount_any n hw hn hroom).mono fun r w' ⟨h1, h2⟩ => ⟨h1, WTo.then hf hr h2⟩
theorem us_rooms {l : List UInt8} {L : List Mu} (hok : ∀ m ∈ L, m.ok) (hl : L.length ≤ 9223372036854775807) (hroom : l.length + 10 + 40 * L.length ≤ 140737488355328) : l.length + 10 ≤ 140737488355328 ∧
    ∀ j (h : j < L.length), (l ++ numB L.length ++ (L.take j).flatMap muB).length + 10 ≤ 140737488355328 ∧ (l ++ numB L.length ++ (L.take j).flatMap muB ++ numB L[j].k.toNat).length + 10 ≤ 140737488355328 ∧ (l ++ numB L.length ++ (L.take j).flatMap muB ++ numB L[j].k.toNat ++ sgB L[j].i).length + 10 ≤ 140737488355328 ∧ (l ++ numB L.length ++ (L.take j).flatMap muB ++ numB L[j].k.toNat ++ sgB L[j].i ++ sgB L[j].t).length + 10 ≤ 140737488355328 := by
  refine ⟨by omega, fun j h => ?_⟩
  have h1 := numB_len10 (n := L.length) (by omega)
  have h2 := ussB_len (L.take j) (fun v hv => hok v (List.mem_of_mem_take hv))
  have hz := hok _ (List.getElem_mem h)
  have h3 := sgB_len hz.i
  have h4 := sgB_len hz.t
  have h5 := numB_len10 (n := L[j].k.toNat) (by have := hz.k.2; omega)
  rw [List.length_take] at h2
  simp only [List.length_append]
  omega
set_option maxRecDepth 100000 in
set_option maxHeartbeats 2000000 in
theorem putU_any {w : World} {base p : Nat} {v : Value} {l : List UInt8} {ao : Option Addr} (L : List Mu) (cap : Nat) (h : Wr w base p v l) (hE : UsAt w (fun k => k ≠ p ∧ v.ownBlock ≠ some k) ao L) (hok : ∀ m ∈ L, m.ok) (hl : L.length ≤ 9223372036854775807) (hroom : l.length + 10 + 40 * L.length ≤ 140737488355328) :
    Calls Try.prog 29 #[.pointer (some ⟨p, 0, none⟩), .slice ao L.length cap] w fun r w' => r = .returned (.tuple #[]) ∧ WTo w w' base p v (l ++ musB L) := by
  obtain ⟨r0, r3⟩ := us_rooms hok hl hroom
  have H0 : Hid _ := r0
  have H3 : Hid _ := r3
  have HB : Hid (l ++ musB L = l ++ numB L.length ++ L.flatMap muB) := by show _ = _; unfold musB; simp only [List.append_assoc]
  have HO : Hid (∀ m ∈ L, m.ok) := hok
  have hT0 : WTo w w base p v l := WTo.refl h
  have HT0 : Hid _ := hT0
  have HE : Hid _ := hE
  clear r0 r3 hroom hok h hE hT0
  go_enter Try.func29, Try.ntmps29
  go_wp2_with (go_at_call 55; refine (wcount_w L.length HT0.out hl H0.out).mono ?_; rintro r w1 ⟨rfl, hT⟩; have HT : Hid _ := hT; clear hT)
  go_loopw [5, 12] (fun _ i wr => ∃ j : Nat, j ≤ L.length ∧ i = .int .i64 j ∧ WTo w wr base p v (l ++ numB L.length ++ (L.take j).flatMap muB)) (fun _ i _ => L.length - (intOf i).toNat)
  case atStart => exact ⟨0, Nat.zero_le _, rfl, by rw [List.take_zero, List.flatMap_nil, List.append_nil]; exact HT.out⟩
  case round =>
    obtain ⟨j, hj, rfl, hTj⟩ := hrel
    by_cases hlt : j < L.length
    · obtain ⟨b, off, rfl, hP, hc⟩ := HE.out (by omega)
      obtain ⟨e0, e1, e2, e3⟩ := hc j hlt
      have d0 := hTj.cell hP.1 hP.2 e0
      have d1 := hTj.cell hP.1 hP.2 e1
      have d2 := hTj.cell hP.1 hP.2 e2
      have d3 := hTj.cell hP.1 hP.2 e3
      have HR : Hid _ := H3.out j hlt
      have HZ : Hid (L[j].ok) := HO.out _ (List.getElem_mem hlt)
      have HS : Hid _ := us_snoc L j hlt
      generalize L[j] = z at d0 d1 d2 d3 HR HZ HS
      obtain ⟨vj, hwj, hfj, hrj⟩ := hTj
      have hbj : wr.heap.size ≠ p := by have := hwj.lt; omega
      have hvj : vj.ownBlock ≠ some wr.heap.size := fun e => by have := hwj.olt _ e; omega
      have hza : z.k ≤ 9223372036854775807 := HZ.out.k.2
      obtain ⟨Wj, hWj⟩ : ∃ Wj, wr.alloc (.cells #[.int .i64 z.k, .int .i64 z.i, .int .i64 z.t, .int .i64 z.v] 38) = Wj := ⟨_, rfl⟩
      have hTT := WTo.refl (hwj.al (.cells #[.int .i64 z.k, .int .i64 z.i, .int .i64 z.t, .int .i64 z.v] 38))
      obtain ⟨q0, q1, q2, q3⟩ := u_cellsP (show Wj.heap[wr.heap.size]? = _ by rw [← hWj]; exact heap_alloc_new _ _)
      rw [hWj] at hTT
      have HG : Hid (∀ w' l', WTo Wj w' base p vj l' → WTo w w' base p v l') := fun w' l' h' => by rw [← hWj] at h'; exact WTo.then hfj hrj h'.fromAlloc
      have tk1 : Hid True := trivial
      clear hc hwj hfj hrj HT HT0 e0 e1 e2 e3
      go_wp2_with (first
        | (go_at_call 55; refine (wcount_iU z.k hTT hza HR.out.1).mono ?_; rintro r w1 ⟨rfl, hT1⟩; have c1 := hT1.cell hbj hvj q1)
        | (go_at_call 56; first
          | (have _t := tk1; refine (wsigned_w z.i hT1 HZ.out.i HR.out.2.1).mono ?_; rintro r w2 ⟨rfl, hT2⟩; have c2 := hT2.cell hbj hvj q2; clear tk1; have tk2 : Hid True := trivial)
          | (have _t := tk2; refine (wsigned_w z.t hT2 HZ.out.t HR.out.2.2.1).mono ?_; rintro r w3 ⟨rfl, hT3⟩; have c3 := hT3.cell hbj hvj q3; clear tk2)
          | (refine (wsigned_w z.v hT3 HZ.out.v HR.out.2.2.2).mono ?_; rintro r w4 ⟨rfl, hT4⟩)))
      go_roundw
      case rel => exact ⟨j + 1, by omega, by go_num, HG.out _ _ (by rw [HS.out, show muB z = numB z.k.toNat ++ sgB z.i ++ sgB z.t ++ sgB z.v from rfl]; simpa only [List.append_assoc] using hT4)⟩
      case measure => simp [intOf]; omega
    · obtain rfl : j = L.length := by omega
      rw [List.take_length] at hTj
      have HTj : Hid _ := hTj
      clear hTj
      go_wp2
      go_end0
      exact ⟨rfl, by rw [HB.out]; exact HTj.out⟩
end Go.Proofs.Ythnhmhjcpdomcaa
