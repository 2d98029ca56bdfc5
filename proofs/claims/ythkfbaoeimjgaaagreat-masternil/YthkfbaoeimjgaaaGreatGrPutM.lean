import Derived.Test.YthkfbaoeimjgaaaGreatGrBytesM
import Derived.Test.YthkfbaoeimjgaaaGreatWToM
import Derived.Test.YthkfbaoeimjgaaaGreatGrCheckM
/- What PutVertex and Put do to a writer. -/
namespace Go.Proofs.YthkfbaoeimjgaaaGreat
open Go.RowKit

theorem vx_len1 {l : List UInt8} {x : Vx} (hok : x.ok) (hroom : l.length + (30 + 20 * x.es.length) ≤ 140737488355328) : l.length + 10 ≤ 140737488355328 ∧ (l ++ sgB x.id).length + 10 ≤ 140737488355328 ∧ (l ++ sgB x.id ++ sgB x.val).length + 10 ≤ 140737488355328 ∧
    ∀ j (h : j < x.es.length), (l ++ sgB x.id ++ sgB x.val ++ numB x.es.length ++ (x.es.take j).flatMap edB).length + 10 ≤ 140737488355328 ∧ (l ++ sgB x.id ++ sgB x.val ++ numB x.es.length ++ (x.es.take j).flatMap edB ++ sgB x.es[j].t).length + 10 ≤ 140737488355328 := by
  have h1 := sgB_len hok.id
  have h2 := sgB_len hok.val
  have h3 := numB_len10 (n := x.es.length) (by have := hok.len; omega)
  refine ⟨by omega, by rw [List.length_append]; omega, by simp only [List.length_append]; omega, fun j h => ?_⟩
  have h4 := edsB_len (x.es.take j) (fun e he => hok.es e (List.mem_of_mem_take he))
  have h5 := sgB_len (hok.es _ (List.getElem_mem h)).t
  rw [List.length_take] at h4
  simp only [List.length_append]
  omega

set_option maxRecDepth 100000 in
set_option maxHeartbeats 2000000 in
theorem putvertex_any {w : World} {base p : Nat} {v : Value} {l : List UInt8} {eo : Option Addr} (x : Vx) (ec : Nat) (h : Wr w base p v l) (hE : EdAt w (fun k => k ≠ p ∧ v.ownBlock ≠ some k) eo x.es) (hok : x.ok) (hroom : l.length + (30 + 20 * x.es.length) ≤ 140737488355328) :
    Calls Tryz.prog 114 #[.pointer (some ⟨p, 0, none⟩), .agg #[.int .i64 x.id, .int .i64 x.val, .slice eo x.es.length ec]] w fun r w' => r = .returned (.tuple #[]) ∧ WTo w w' base p v (l ++ vxB x) := by
  have hbp : w.heap.size ≠ p := by have := h.lt; omega
  have hbv : v.ownBlock ≠ some w.heap.size := fun e => by have := h.olt _ e; omega
  obtain ⟨W0, hW0⟩ : ∃ W0, w.alloc (.cells #[.int .i64 x.id, .int .i64 x.val, .slice eo x.es.length ec] 114) = W0 := ⟨_, rfl⟩
  have hT0 : WTo W0 W0 base p v l := by rw [← hW0]; exact WTo.refl (h.al _)
  have hE0 : EdAt W0 (fun k => k ≠ p ∧ v.ownBlock ≠ some k) eo x.es := by rw [← hW0]; exact hE.new (one_new _ _)
  obtain ⟨k0, k1, k2⟩ := box3 (show W0.heap[w.heap.size]? = _ by rw [← hW0]; exact heap_alloc_new _ _)
  have HF : Hid (∀ w' l', WTo W0 w' base p v l' → WTo w w' base p v l') := fun w' l' h' => by rw [← hW0] at h'; exact h'.fromAlloc
  obtain ⟨r0, r1, r2, r3⟩ := vx_len1 hok hroom
  have H0 : Hid _ := r0
  have H1 : Hid _ := r1
  have H2 : Hid _ := r2
  have H3 : Hid _ := r3
  have HB : Hid (l ++ vxB x = l ++ sgB x.id ++ sgB x.val ++ numB x.es.length ++ x.es.flatMap edB) := by show _ = _; unfold vxB; simp only [List.append_assoc]
  have HI : Hid (I64 x.id ∧ I64 x.val) := ⟨hok.id, hok.val⟩
  have HO : Hid (∀ e ∈ x.es, e.ok) := hok.es
  have hxl : x.es.length ≤ 9223372036854775807 := Nat.le_trans hok.len (by decide)
  clear r0 r1 r2 r3 hroom hok h hE
  go_enter Tryz.func114, Tryz.ntmps114
  go_wp2_with (first
    | (go_at_call 52; refine (wsigned_w _ (by first | exact hT | exact hT0) (by first | exact HI.out.1 | exact HI.out.2) (by first | exact H0.out | exact H1.out)).mono ?_; rintro r w1 ⟨rfl, hT⟩; have c0 := hT.cell hbp hbv k0; have c1 := hT.cell hbp hbv k1; have c2 := hT.cell hbp hbv k2)
    | (go_at_call 51; refine (wcount_w _ hT hxl H2.out).mono ?_; rintro r w1 ⟨rfl, hT⟩; have c0 := hT.cell hbp hbv k0; have c1 := hT.cell hbp hbv k1; have c2 := hT.cell hbp hbv k2))
  go_loopw [5, 22] (fun _ i wr => ∃ j : Nat, j ≤ x.es.length ∧ i = .int .i64 j ∧ WTo W0 wr base p v (l ++ sgB x.id ++ sgB x.val ++ numB x.es.length ++ (x.es.take j).flatMap edB)) (fun _ i _ => x.es.length - (intOf i).toNat)
  case atStart => exact ⟨0, Nat.zero_le _, rfl, by simpa using hT⟩
  case round =>
    obtain ⟨j, hj, rfl, hTj⟩ := hrel
    by_cases hlt : j < x.es.length
    · obtain ⟨b, off, rfl, hP, hc⟩ := hE0 (by omega)
      have d0 := hTj.cell hP.1 hP.2 (hc j hlt).1
      have d1 := hTj.cell hP.1 hP.2 (hc j hlt).2
      have HR : Hid _ := H3.out j hlt
      have HZ : Hid (x.es[j].ok) := HO.out _ (List.getElem_mem hlt)
      have HS : Hid _ := eds_snoc x.es j hlt
      generalize x.es[j] = z at d0 d1 HR HZ HS
      obtain ⟨vj, hwj, hfj, hrj⟩ := hTj
      have hbj : wr.heap.size ≠ p := by have := hwj.lt; omega
      have hvj : vj.ownBlock ≠ some wr.heap.size := fun e => by have := hwj.olt _ e; omega
      obtain ⟨Wj, hWj⟩ : ∃ Wj, wr.alloc (.cells #[.int .i64 z.t, .int .i64 z.w] 111) = Wj := ⟨_, rfl⟩
      have hTT := WTo.refl (hwj.al (.cells #[.int .i64 z.t, .int .i64 z.w] 111))
      obtain ⟨q0, q1⟩ := box2 (show Wj.heap[wr.heap.size]? = _ by rw [← hWj]; exact heap_alloc_new _ _)
      rw [hWj] at hTT
      have HG : Hid (∀ w' l', WTo Wj w' base p vj l' → WTo W0 w' base p v l') := fun w' l' h' => by rw [← hWj] at h'; exact WTo.then hfj hrj h'.fromAlloc
      clear hc hT hwj hfj hrj
      go_wp2_with (go_at_call 52; refine (wsigned_w _ (by first | exact hT | exact hTT) (by first | exact HZ.out.t | exact HZ.out.w) (by first | exact HR.out.1 | exact HR.out.2)).mono ?_; rintro r w1 ⟨rfl, hT⟩; have c0 := hT.cell hbj hvj q0; have c1 := hT.cell hbj hvj q1)
      go_roundw
      case rel => exact ⟨j + 1, by omega, by go_num, HG.out _ _ (by rw [HS.out, show edB z = sgB z.t ++ sgB z.w from rfl]; simpa only [List.append_assoc] using hT)⟩
      case measure => simp [intOf]; omega
    · obtain rfl : j = x.es.length := by omega
      go_wp2
      go_end0
      exact ⟨rfl, HF.out _ _ (by rw [HB.out]; simpa using hTj)⟩
theorem put_rooms {l : List UInt8} {G : List Vx} (hok : ∀ v ∈ G, v.ok) (hl : G.length ≤ 9223372036854775807) (hroom : l.length + 10 + room G ≤ 140737488355328) : l.length + 10 ≤ 140737488355328 ∧
    ∀ j (h : j < G.length), (l ++ numB G.length ++ (G.take j).flatMap vxB).length + (30 + 20 * G[j].es.length) ≤ 140737488355328 := by
  refine ⟨by omega, fun j h => ?_⟩
  have h1 := numB_len10 (n := G.length) (by omega)
  have h2 := vxsB_len (G.take j) (fun v hv => hok v (List.mem_of_mem_take hv))
  have h3 := room_at h
  simp only [List.length_append]
  omega

set_option maxRecDepth 100000 in
set_option maxHeartbeats 2000000 in
theorem put_any {w : World} {base p : Nat} {v : Value} {l : List UInt8} {ao : Option Addr} (G : List Vx) (cap : Nat) (h : Wr w base p v l) (hG : VxAt w (fun k => k ≠ p ∧ v.ownBlock ≠ some k) ao G) (hok : ∀ v ∈ G, v.ok) (hl : G.length ≤ 9223372036854775807) (hroom : l.length + 10 + room G ≤ 140737488355328) :
    Calls Tryz.prog 50 #[.pointer (some ⟨p, 0, none⟩), .agg #[.slice ao G.length cap]] w fun r w' => r = .returned (.tuple #[]) ∧ WTo w w' base p v (l ++ grB G) := by
  have hbp : w.heap.size ≠ p := by have := h.lt; omega
  have hbv : v.ownBlock ≠ some w.heap.size := fun e => by have := h.olt _ e; omega
  obtain ⟨W0, hW0⟩ : ∃ W0, w.alloc (.cells #[.slice ao G.length cap] 24) = W0 := ⟨_, rfl⟩
  have hT0 : WTo W0 W0 base p v l := by rw [← hW0]; exact WTo.refl (h.al _)
  have hG0 : VxAt W0 (fun k => k ≠ p ∧ v.ownBlock ≠ some k) ao G := by rw [← hW0]; exact hG.new (one_new _ _)
  have k0 : W0.cell? ⟨w.heap.size, 0, none⟩ = some (.slice ao G.length cap) := by rw [← hW0]; exact cell_of_one (heap_alloc_new _ _)
  have HF : Hid (∀ w' l', WTo W0 w' base p v l' → WTo w w' base p v l') := fun w' l' h' => by rw [← hW0] at h'; exact h'.fromAlloc
  obtain ⟨r0, r1⟩ := put_rooms hok hl hroom
  have H0 : Hid _ := r0
  have H1 : Hid _ := r1
  have HB : Hid (l ++ grB G = l ++ numB G.length ++ G.flatMap vxB) := by show _ = _; unfold grB; simp only [List.append_assoc]
  have HO : Hid (∀ v ∈ G, v.ok) := hok
  clear r0 r1 hroom hok h hG
  go_enter Tryz.func50, Tryz.ntmps50
  go_wp2_with (go_at_call 51; refine (wcount_w _ hT0 hl H0.out).mono ?_; rintro r w1 ⟨rfl, hT⟩; have c0 := hT.cell hbp hbv k0)
  go_loopw [5, 14] (fun _ i wr => ∃ j : Nat, j ≤ G.length ∧ i = .int .i64 j ∧ WTo W0 wr base p v (l ++ numB G.length ++ (G.take j).flatMap vxB)) (fun _ i _ => G.length - (intOf i).toNat)
  case atStart => exact ⟨0, Nat.zero_le _, rfl, by simpa using hT⟩
  case round =>
    obtain ⟨j, hj, rfl, hTj⟩ := hrel
    by_cases hlt : j < G.length
    · obtain ⟨b, off, rfl, hP, hc⟩ := hG0 (by omega)
      obtain ⟨eo, ec, e0, e1, e2, e3⟩ := hc j hlt
      have d0 := hTj.cell hP.1 hP.2 e0
      have d1 := hTj.cell hP.1 hP.2 e1
      have d2 := hTj.cell hP.1 hP.2 e2
      have HR : Hid _ := H1.out j hlt
      have HZ : Hid (G[j].ok) := HO.out _ (List.getElem_mem hlt)
      have HS : Hid _ := vxs_snoc G j hlt
      obtain ⟨vj, hwj, hfj, hrj⟩ := hTj
      have hsz := hfj.size
      have e4 : EdAt wr (fun k => k ≠ p ∧ vj.ownBlock ≠ some k) eo G[j].es := e3.kept hfj (fun k hk hp => ⟨by rintro (e | e); exact hp.1 e; exact hp.2 e, hp.1, fun e => by
        rcases hrj with e' | ⟨g, e', hg⟩
        · rw [e'] at e; exact hp.2 e
        · rw [e'] at e; cases e; omega⟩)
      generalize G[j] = z at d0 d1 d2 HR HZ HS e4
      have hPV := fun o => putvertex_any z ec (hwj.al o) (e4.new (one_new wr o)) HZ.out HR.out
      have HG : Hid (∀ o w' l', WTo (wr.alloc o) w' base p vj l' → WTo W0 w' base p v l') := fun o w' l' h' => WTo.then hfj hrj h'.fromAlloc
      clear hc hT hwj hfj hrj e0 e1 e2 e3 e4
      go_wp2_with (go_at_call 114; refine (hPV _).mono ?_; rintro r w1 ⟨rfl, hT⟩)
      go_roundw
      case rel => exact ⟨j + 1, by omega, by go_num, HG.out _ _ _ (by rw [HS.out]; simpa only [List.append_assoc] using hT)⟩
      case measure => simp [intOf]; omega
    · obtain rfl : j = G.length := by omega
      go_wp2
      go_end0
      exact ⟨rfl, HF.out _ _ (by rw [HB.out]; simpa using hTj)⟩
theorem WTo.new {w w1 w2 : World} {B base p : Nat} {v : Value} {l l' : List UInt8} (hb : Below B w w1) (hw : Wr w1 base p v l) (h : WTo w1 w2 base p v l') (hp : B ≤ p) (hB : B ≤ base) : Below B w w2 := by
  obtain ⟨v', _, hf, _⟩ := h
  exact hb.trans (hf.below (Nat.le_trans hp (Nat.le_of_lt hw.lt)) (fun k hk => by
    rcases hk with rfl | hk
    · exact hp
    · exact Nat.le_trans hB (hw.own.lt k hk).1))

end Go.Proofs.YthkfbaoeimjgaaaGreat
