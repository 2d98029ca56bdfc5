import Derived.Test.YthnhmhjcpdomcaaGrVBM
import Derived.Test.YthnhmhjcpdomcaaMuRefAM
import Derived.Test.YthnhmhjcpdomcaaMuR14M
import Derived.Test.YthnhmhjcpdomcaaGrData
import Derived.Test.YthnhmhjcpdomcaaProg
import Derived.WalkKit
import Derived.ProofKit
import Derived.OpenShut
import Derived.Deep.Slices
import Derived.Deep.Strs
import Derived.Lib.SmallJoins
import Derived.SizedLaws
import Derived.Test.YthnhmhjcpdomcaaMuThat
section
/- What the document's Bytes returns, of greater graphs, too. -/
namespace Go.Proofs.Ythnhmhjcpdomcaa
open Go.RowKit
set_option maxRecDepth 100000 in
set_option maxHeartbeats 1600000 in
theorem vertexbytes_big {w : World} {P : Nat → Prop} {eo : Option Addr} (x : Vx) (ec : Nat) (hE : EdAt w P eo x.es) (hok : x.ok) (hl : x.es.length ≤ 4096) :
    Calls Try.prog 42 #[.agg #[.int .i64 x.id, .int .i64 x.val, .slice eo x.es.length ec]] w fun r w' => r = .returned (.string (str (vxB x))) ∧ Below w.heap.size w w' := by
  have H1 := sgB_len hok.id
  have H2 := sgB_len hok.val
  have H3 := numB_len10 (n := x.es.length) (by omega)
  have s1 : (str (sgB x.id)).size ≤ 10 := H1
  have s2 : (str (sgB x.val)).size ≤ 10 := H2
  have s3 : (str (numB x.es.length)).size ≤ 10 := H3
  have HI : Hid (I64 x.id ∧ I64 x.val) := ⟨hok.id, hok.val⟩
  have hN := fun W => refnumber_any x.es.length W (by omega)
  have hn1 := run_add_str (str (sgB x.id)) (str (sgB x.val)) (by omega)
  have hn2 := run_add_str (str (sgB x.id) ++ str (sgB x.val)) (str (numB x.es.length)) (by rw [ByteArray.size_append]; omega)
  have hcv : IntKind.u64.wrap (x.es.length : Int) = (x.es.length : Int) := by rw [IntKind.wrap_u64]; omega
  have HE : Hid (EdAt w P eo x.es) := hE
  have HO : Hid (∀ e ∈ x.es, e.ok) := hok.es
  clear hE hok
  go_enter Try.func42, Try.ntmps42
  go_wp2
  obtain ⟨W0, hW0⟩ : ∃ W0, w.alloc (.cells #[.int .i64 x.id, .int .i64 x.val, .slice eo x.es.length ec] 70) = W0 := ⟨_, rfl⟩
  obtain ⟨k0, k1, k2⟩ := box3 (show W0.heap[w.heap.size]? = _ by rw [← hW0]; exact heap_alloc_new _ _)
  have hb0 : Below w.heap.size w W0 := by rw [← hW0]; exact one_new _ _
  rw [hW0]
  go_region_held (fun w' => w'.cell? ⟨w.heap.size, 0, none⟩ = some (.int .i64 x.id) ∧ w'.cell? ⟨w.heap.size, 1, none⟩ = some (.int .i64 x.val) ∧ w'.cell? ⟨w.heap.size, 2, none⟩ = some (.slice eo x.es.length ec)) (first | exact hS1 | go_keep)
    (first
      | (go_at_call 27; refine (refsigned_g _ _ (by first | exact HI.out.1 | exact HI.out.2)).mono ?_; rintro r w1 ⟨rfl, hb1⟩; first | (have hB2 := hB1.trans (hb1.mono hB1.size); have hS1 := (⟨box_below hb1 hS1.1, box_below hb1 hS1.2.1, box_below hb1 hS1.2.2⟩ : w1.cell? ⟨w.heap.size, 0, none⟩ = some (.int .i64 x.id) ∧ w1.cell? ⟨w.heap.size, 1, none⟩ = some (.int .i64 x.val) ∧ w1.cell? ⟨w.heap.size, 2, none⟩ = some (.slice eo x.es.length ec))) | (have hB1 := hb0.trans ((below_c hb1).mono hb0.size); have hS1 := (⟨box_below hb1 k0, box_below hb1 k1, box_below hb1 k2⟩ : w1.cell? ⟨w.heap.size, 0, none⟩ = some (.int .i64 x.id) ∧ w1.cell? ⟨w.heap.size, 1, none⟩ = some (.int .i64 x.val) ∧ w1.cell? ⟨w.heap.size, 2, none⟩ = some (.slice eo x.es.length ec))))
      | (go_at_call 24; refine (hN _).mono ?_; rintro r w3 ⟨rfl, hb3⟩; have hB3 := hB2.trans (hb3.mono hB2.size); have hS1 := (⟨box_below hb3 hS1.1, box_below hb3 hS1.2.1, box_below hb3 hS1.2.2⟩ : w3.cell? ⟨w.heap.size, 0, none⟩ = some (.int .i64 x.id) ∧ w3.cell? ⟨w.heap.size, 1, none⟩ = some (.int .i64 x.val) ∧ w3.cell? ⟨w.heap.size, 2, none⟩ = some (.slice eo x.es.length ec))))
  all_goals
    clear hS1 k0 k1
    have HB3 : Hid (Below w.heap.size w w3) := hB3
    have q2 := (‹_ ∧ _ ∧ w3.cell? ⟨w.heap.size, 2, none⟩ = some (.slice eo x.es.length ec)›).2.2
    have HQ : Hid _ := q2
    clear q2 hN hcv hn1 hn2 s1 s2 s3 k2 hb0 HI
    go_wp2
    go_loopw [3, 4] (fun u i wr => ∃ (k : Nat), k ≤ x.es.length ∧ i = .int .i64 k ∧ u = .string (str (sgB x.id ++ sgB x.val ++ numB x.es.length ++ (x.es.take k).flatMap edB)) ∧ wr.cell? ⟨w.heap.size, 2, none⟩ = some (.slice eo x.es.length ec) ∧ Below w.heap.size w wr) (fun _ i _ => x.es.length - (intOf i).toNat)
    case atStart => exact ⟨0, Nat.zero_le _, rfl, by rw [str_append, str_append]; simp, HQ.out, HB3.out⟩
    case round =>
      obtain ⟨k, hk, rfl, rfl, hc2, hbr⟩ := hrel
      by_cases hlt : k < x.es.length
      · obtain ⟨b, off, rfl, hP, hc⟩ := HE.out (by omega)
        have f0 := (hbr.cell (p := ⟨b, off + k * 2, none⟩) (lt_cell (hc k hlt).1)).trans (hc k hlt).1
        have f1 := (hbr.cell (p := ⟨b, off + k * 2 + 1, none⟩) (lt_cell (hc k hlt).1)).trans (hc k hlt).2
        have HS : Hid _ := eds_snoc x.es k hlt
        have HZ : Hid (x.es[k].ok) := HO.out _ (List.getElem_mem hlt)
        have z1 : (str (sgB x.es[k].t)).size ≤ 10 := sgB_len HZ.out.t
        have z2 : (str (sgB x.es[k].w)).size ≤ 10 := sgB_len HZ.out.w
        have z0 : (str (sgB x.id ++ sgB x.val ++ numB x.es.length ++ (x.es.take k).flatMap edB)).size ≤ 100000 := by
          have h4 := edsB_len (x.es.take k) (fun e he => HO.out e (List.mem_of_mem_take he))
          rw [List.length_take] at h4
          show (_ : List UInt8).length ≤ _
          simp only [List.length_append]
          omega
        generalize x.es[k] = z at f0 f1 HS HZ z1 z2
        generalize hA : sgB x.id ++ sgB x.val ++ numB x.es.length ++ (x.es.take k).flatMap edB = A at z0 ⊢
        have HA : Hid _ := hA
        clear hc hA
        go_wp2
        go_region_held (fun w' => w'.cell? ⟨w.heap.size, 2, none⟩ = some (.slice (some ⟨b, off, none⟩) x.es.length ec) ∧ w'.cell? ⟨b, off + k * 2, none⟩ = some (.int .i64 z.t) ∧ w'.cell? ⟨b, off + k * 2 + 1, none⟩ = some (.int .i64 z.w)) (first | exact hS1 | go_keep)
          ((go_at_call 27; refine (refsigned_g _ _ (by first | exact HZ.out.t | exact HZ.out.w)).mono ?_; rintro r w1 ⟨rfl, hb1⟩; first | (have hB2 := hB1.trans (hb1.mono hB1.size); have hS1 := (⟨box_below hb1 hS1.1, box_below hb1 hS1.2.1, box_below hb1 hS1.2.2⟩ : w1.cell? ⟨w.heap.size, 2, none⟩ = some (.slice (some ⟨b, off, none⟩) x.es.length ec) ∧ w1.cell? ⟨b, off + k * 2, none⟩ = some (.int .i64 z.t) ∧ w1.cell? ⟨b, off + k * 2 + 1, none⟩ = some (.int .i64 z.w))) | (have hB1 := hbr.trans ((below_c hb1).mono hbr.size); have hS1 := (⟨box_below hb1 hc2, box_below hb1 f0, box_below hb1 f1⟩ : w1.cell? ⟨w.heap.size, 2, none⟩ = some (.slice (some ⟨b, off, none⟩) x.es.length ec) ∧ w1.cell? ⟨b, off + k * 2, none⟩ = some (.int .i64 z.t) ∧ w1.cell? ⟨b, off + k * 2 + 1, none⟩ = some (.int .i64 z.w)))))
        all_goals
          go_wp2
          go_roundw
          case rel => exact ⟨k + 1, by omega, by go_num, by rw [HS.out, ← List.append_assoc, HA.out, show edB z = sgB z.t ++ sgB z.w from rfl, str_append, str_append], (‹w1.cell? ⟨w.heap.size, 2, none⟩ = some (.slice (some ⟨b, off, none⟩) x.es.length ec) ∧ _›).1, hB2⟩
          case measure => simp [intOf]; omega
      · obtain rfl : k = x.es.length := by omega
        go_wp2
        go_ret
        exact ⟨by rw [List.take_length]; rfl, hbr⟩
set_option maxRecDepth 100000 in
set_option maxHeartbeats 400000 in
theorem refbytes_big {w : World} {P : Nat → Prop} {ao : Option Addr} (G : List Vx) (cap : Nat) (hG : VxAt w P ao G) (hok : ∀ v ∈ G, v.ok) (hl : G.length ≤ 4096) (hes : ∀ v ∈ G, v.es.length ≤ 4096) (hr : room G ≤ 1000000000) :
    Calls Try.prog 12 #[.slice ao G.length cap] w fun r w' => r = .returned (.string (str (grB G))) ∧ Below w.heap.size w w' := by
  have hN := fun W => refnumber_any G.length W (by omega)
  have hcv : IntKind.u64.wrap (G.length : Int) = (G.length : Int) := by rw [IntKind.wrap_u64]; omega
  have s3 : (str (numB G.length)).size ≤ 10 := numB_len10 (n := G.length) (by omega)
  have HG : Hid (VxAt w P ao G) := hG
  have HO : Hid (∀ v ∈ G, v.ok) := hok
  have HE : Hid (∀ v ∈ G, v.es.length ≤ 4096) := hes
  clear hG hok hes
  go_enter Try.func12, Try.ntmps12
  go_wp2_with (go_at_call 24; refine (hN _).mono ?_; rintro r w3 ⟨rfl, hb3⟩)
  clear hN hcv
  go_loopw [3, 4] (fun u i wr => ∃ (k : Nat), k ≤ G.length ∧ i = .int .i64 k ∧ u = .string (str (numB G.length ++ (G.take k).flatMap vxB)) ∧ Below w.heap.size w wr) (fun _ i _ => G.length - (intOf i).toNat)
  case atStart => exact ⟨0, Nat.zero_le _, rfl, by simp, hb3⟩
  case round =>
    obtain ⟨k, hk, rfl, rfl, hbr⟩ := hrel
    by_cases hlt : k < G.length
    · have HV := HG.out.new hbr
      obtain ⟨b, off, rfl, hP, hc⟩ := HV (by omega)
      obtain ⟨eo, ec, f0, f1, f2, f3⟩ := hc k hlt
      have HS : Hid _ := vxs_snoc G k hlt
      have HZ : Hid (G[k].ok) := HO.out _ (List.getElem_mem hlt)
      have HL : Hid (G[k].es.length ≤ 4096) := HE.out _ (List.getElem_mem hlt)
      have HF : Hid (EdAt _ _ eo G[k].es) := f3
      have z1 : (str (vxB G[k])).size ≤ 100000 := by show (vxB G[k]).length ≤ _; have := vxB_len HZ.out; have := HL.out; omega
      have z0 : (str (numB G.length ++ (G.take k).flatMap vxB)).size ≤ 1000100000 := by
        have h4 := vxsB_len (G.take k) (fun e he => HO.out e (List.mem_of_mem_take he))
        have h5 := room_at hlt
        have h6 : (numB G.length).length ≤ 10 := s3
        show (_ : List UInt8).length ≤ _
        simp only [List.length_append]
        omega
      generalize G[k] = z at f0 f1 f2 HF HS HZ HL z1
      generalize hA : numB G.length ++ (G.take k).flatMap vxB = A at z0 ⊢
      have HA : Hid _ := hA
      clear hc hA f3 HV
      go_wp2_with (go_at_call 42; refine (vertexbytes_big z ec HF.out HZ.out HL.out).mono ?_; rintro r w4 ⟨rfl, hb4⟩; have hB4 := hbr.trans (hb4.mono hbr.size))
      go_roundw
      case rel => exact ⟨k + 1, by omega, by go_num, by rw [HS.out, ← List.append_assoc, HA.out, str_append], hB4⟩
      case measure => simp [intOf]; omega
    · obtain rfl : k = G.length := by omega
      go_wp2
      go_ret
      exact ⟨by rw [List.take_length]; rfl, hbr⟩
end Go.Proofs.Ythnhmhjcpdomcaa
end

section
/- The law's own call: an edge is put in. -/
namespace Go.Proofs.Ythnhmhjcpdomcaa
open Go.RowKit Go.Sort
theorem aw_app : appG [⟨1, 0, []⟩, ⟨2, 0, []⟩] [⟨4, 1, 2, 5⟩] = ([⟨1, 0, [⟨2, 5⟩]⟩, ⟨2, 0, []⟩], 1) := by
  unfold appG thatC
  rw [sortU_one]
  rfl
theorem aw_fine : Fine [⟨1, 0, []⟩, ⟨2, 0, []⟩] := ⟨by decide, by intro v hv; simp at hv; rcases hv with rfl | rfl <;> exact List.Pairwise.nil⟩
theorem aw_graph {W : World} {b : Nat} {t : TypeId} {f : Nat × Nat} (h : W.heap[b]? = some (.cells #[.int .i64 1, .int .i64 0, .slice none 0 0, .int .i64 2, .int .i64 0, .slice none 0 0] t f)) : VxAt W (fun _ => True) (some ⟨b, 0, none⟩) [⟨1, 0, []⟩, ⟨2, 0, []⟩] := by
  intro _
  refine ⟨b, 0, rfl, trivial, fun j hj => ?_⟩
  match j, hj with
  | 0, _ => exact ⟨none, 0, by simp [World.cell?, h], by simp [World.cell?, h], by simp [World.cell?, h], fun hp => absurd hp (by simp)⟩
  | 1, _ => exact ⟨none, 0, by simp [World.cell?, h], by simp [World.cell?, h], by simp [World.cell?, h], fun hp => absurd hp (by simp)⟩
theorem aw_list {W : World} {b : Nat} {t : TypeId} {f : Nat × Nat} (h : W.heap[b]? = some (.cells #[.int .i64 4, .int .i64 1, .int .i64 2, .int .i64 5] t f)) : UsAt W (fun _ => True) (some ⟨b, 0, none⟩) [⟨4, 1, 2, 5⟩] := by
  intro _
  refine ⟨b, 0, rfl, trivial, fun j hj => ?_⟩
  match j, hj with
  | 0, _ => exact ⟨by simp [World.cell?, h], by simp [World.cell?, h], by simp [World.cell?, h], by simp [World.cell?, h]⟩
theorem aw_ok : ∀ v ∈ ([⟨1, 0, []⟩, ⟨2, 0, []⟩] : List Vx), v.ok := by
  intro v hv
  simp at hv
  rcases hv with rfl | rfl <;> exact ⟨⟨by decide, by decide⟩, ⟨by decide, by decide⟩, fun e he => (by cases he), by decide⟩
theorem aw_call {w : World} {a b : Nat} {t t' : TypeId} {f f' : Nat × Nat} (h : w.heap[a]? = some (.cells #[.int .i64 1, .int .i64 0, .slice none 0 0, .int .i64 2, .int .i64 0, .slice none 0 0] t f)) (h' : w.heap[b]? = some (.cells #[.int .i64 4, .int .i64 1, .int .i64 2, .int .i64 5] t' f')) :
    Calls Try.prog 16 #[.agg #[.slice (some ⟨a, 0, none⟩) 2 2], .slice (some ⟨b, 0, none⟩) 1 1] w fun r w' => ∃ so c, r = .returned (.tuple #[.agg #[.slice so 2 c], .int .i64 1]) ∧ VxAt w' (fun _ => True) so [⟨1, 0, [⟨2, 5⟩]⟩, ⟨2, 0, []⟩] ∧ Below w.heap.size w w' := by
  refine (apply_any (w := w) [⟨1, 0, []⟩, ⟨2, 0, []⟩] 2 [⟨4, 1, 2, 5⟩] 1 (aw_graph h) aw_ok aw_fine (N := 2) ⟨by decide, by intro v hv; simp at hv; rcases hv with rfl | rfl <;> decide⟩ (by decide) (aw_list h') (by intro m hm; simp at hm; subst hm; decide)).mono ?_
  rintro r w' ⟨sv, M, rfl, h1, h2, h3⟩
  rw [aw_app] at h1 ⊢
  obtain ⟨ao, c, rfl, hV⟩ := h2.at_
  have hl : M.length = 2 := by have := congrArg List.length h1; simpa using this
  rw [h1] at hV
  rw [hl]
  exact ⟨ao, c, rfl, hV.mono (fun _ _ _ => trivial), h3⟩
set_option maxRecDepth 100000 in
theorem awake6 (w : World) : Calls Try.prog 15 #[] w fun r w' => r = .returned (.bool true) ∧ Below w.heap.size w w' := by
  obtain ⟨W0, hW0⟩ : ∃ W0, (w.alloc (.cells #[.int .i64 1, .int .i64 0, .slice none 0 0, .int .i64 2, .int .i64 0, .slice none 0 0] 84)).alloc (.cells #[.int .i64 4, .int .i64 1, .int .i64 2, .int .i64 5] 38) = W0 := ⟨_, rfl⟩
  have hb0 : Below w.heap.size w W0 := by rw [← hW0]; exact b2 _ _ _
  have hg0 : W0.heap[w.heap.size]? = some (.cells #[.int .i64 1, .int .i64 0, .slice none 0 0, .int .i64 2, .int .i64 0, .slice none 0 0] 84 (0, 0)) := by rw [← hW0]; exact (Below.heap_alloc _ _ _ (by simp)).trans (heap_alloc_new _ _)
  have hr0 : W0.heap[w.heap.size + 1]? = some (.cells #[.int .i64 4, .int .i64 1, .int .i64 2, .int .i64 5] 38 (0, 0)) := by
    have := heap_alloc_new (w.alloc (.cells #[.int .i64 1, .int .i64 0, .slice none 0 0, .int .i64 2, .int .i64 0, .slice none 0 0] 84)) (.cells #[.int .i64 4, .int .i64 1, .int .i64 2, .int .i64 5] 38)
    rw [World.size_alloc, hW0] at this
    exact this
  have HG : Hid _ := hg0
  have HR : Hid _ := hr0
  have HB : Hid _ := hb0
  have HE : Hid (sumE [⟨1, 0, [⟨2, 5⟩]⟩, ⟨2, 0, []⟩] = 1) := by show _ = _; simp [sumE, wrap64]
  clear hg0 hr0 hb0
  go_enter Try.func15, Try.ntmps15
  go_wp2_with (first
    | (go_at_call 16; refine (aw_call (w := W0) HG.out HR.out).mono ?_; rintro r w1 ⟨so, c, rfl, hv, hb1⟩; have HV : Hid _ := hv; have HB1 : Hid _ := hb1; clear hv hb1)
    | (go_at_call 41; refine (edges_any (G := [⟨1, 0, [⟨2, 5⟩]⟩, ⟨2, 0, []⟩]) c (VxAt.new HV.out (one_new _ _)) (by decide)).mono ?_; rw [HE.out]; rintro r w2 ⟨rfl, hb2⟩; have HB2 : Hid _ := hb2; clear hb2))
  go_ret
  refine ⟨rfl, ?_⟩
  have h1 := HB.out.trans (HB1.out.mono HB.out.size)
  exact (h1.alloc h1.size _).trans (HB2.out.mono (by have := (h1.alloc h1.size (.cells #[.slice so 2 c] 24)).size; exact this))
end Go.Proofs.Ythnhmhjcpdomcaa
end

section
/- MutApplies: requests are done as the document does them. -/
namespace Go.Proofs.Ythnhmhjcpdomcaa
open Go.RowKit Go.Sort
theorem room_up : ∀ (G : List Vx) (n : Nat), (∀ v ∈ G, v.es.length ≤ n) → room G ≤ G.length * (30 + 20 * n)
  | [], _, _ => by simp [room]
  | v :: G, n, h => by
    have h1 := room_up G n (fun x hx => h x (List.mem_cons_of_mem _ hx))
    have h2 := h v List.mem_cons_self
    unfold room at *
    rw [List.map_cons, List.sum_cons, List.length_cons, Nat.add_mul, Nat.one_mul]
    omega
set_option maxRecDepth 100000 in
set_option maxHeartbeats 1000000 in
/-- What may not be, or is too much. -/
theorem mapp_bad {w : World} {P : Nat → Prop} {ao bo : Option Addr} (G : List Vx) (cap : Nat) (n cap2 : Nat) (h : VxAt w P ao G) (hok : ∀ v ∈ G, v.ok) (hl : G.length * 40 ≤ 140737488355328) (hz : chk G ≠ 0 ∨ 60 < n) :
    Calls Try.prog 4 #[.agg #[.slice ao G.length cap], .slice bo n cap2] w fun r w' => r = .returned (.bool true) ∧ Below w.heap.size w w' := by
  have HG : Hid (∀ W, Below w.heap.size w W → VxAt W P ao G) := fun W hb => h.new hb
  have HOk : Hid (∀ v ∈ G, v.ok) := hok
  have HS0 : Hid _ := OB.start w ao G.length cap
  clear h hok
  by_cases hc0 : chk G = 0
  · have hn : (60 : Int) < n := by rcases hz with e | e; · exact absurd hc0 e
                                   · omega
    have HC : Hid _ := hc0
    clear hz hc0
    go_enter Try.func4, Try.ntmps4
    go_wp2_with (first
      | (go_at_call 13; refine (ref_any G cap (HG.out _ HS0.out.low) HOk.out hl).mono ?_; rintro r w2 ⟨bo2, c2, rfl, hV2, hb2⟩; have hS2 := OB.new HS0.out hb2)
      | (go_at_call 14; refine (refcheck_any c2 hV2 (by omega) HOk.out).mono ?_; rintro r w3 ⟨rfl, hb3⟩; rw [HC.out]; have hS3 := hS2.new hb3)
      | (go_at_call 15; refine (awake6 _).mono ?_; rintro r w4 ⟨rfl, hb4⟩; have hS4 := hS3.new hb4))
    go_ret
    exact ⟨rfl, hS4.low⟩
  · obtain ⟨c, hc⟩ : ∃ c, chk G = c := ⟨_, rfl⟩
    have hc1 : (c != 0) = true := by rw [← hc]; simpa using hc0
    have HC : Hid _ := hc
    clear hz hc0 hc
    go_enter Try.func4, Try.ntmps4
    go_wp2_with (first
      | (go_at_call 13; refine (ref_any G cap (HG.out _ HS0.out.low) HOk.out hl).mono ?_; rintro r w2 ⟨bo2, c2, rfl, hV2, hb2⟩; have hS2 := OB.new HS0.out hb2)
      | (go_at_call 14; refine (refcheck_any c2 hV2 (by omega) HOk.out).mono ?_; rintro r w3 ⟨rfl, hb3⟩; rw [HC.out]; have hS3 := hS2.new hb3)
      | (go_at_call 15; refine (awake6 _).mono ?_; rintro r w4 ⟨rfl, hb4⟩; have hS4 := hS3.new hb4))
    go_ret
    exact ⟨rfl, hS4.low⟩
theorem RO.us {w : World} {base : Nat} {v : Value} {L : List Mu} (h : RO w base v L) : ∃ lo lc, v = .slice lo L.length lc ∧ UsAt w (fun _ => True) lo L := by
  obtain ⟨lo, n, lc, rfl⟩ := own_any h
  obtain ⟨h1, _, h3⟩ := own_shapeG h
  subst h1
  refine ⟨lo, lc, rfl, fun hl => ?_⟩
  obtain ⟨g, c, e, _, hc⟩ := h.at_ hl
  cases e
  exact ⟨g, 0, rfl, trivial, fun j hj => by rw [Nat.zero_add]; exact hc j hj⟩
theorem cellG1 {w : World} {g : Nat} {v : Value} (h : w.heap[g]? = some (.cells #[v] 24 (0, 0))) : w.cell? ⟨g, 0, none⟩ = some v := by simp [World.cell?, h]
set_option maxRecDepth 100000 in
set_option maxHeartbeats 4000000 in
theorem mapp_good {w : World} {P Q : Nat → Prop} {ao bo : Option Addr} (G : List Vx) (cap : Nat) (L : List Mu) (cap2 : Nat) (h : VxAt w P ao G) (hok : ∀ v ∈ G, v.ok) (hL : UsAt w Q bo L) (hmo : ∀ m ∈ L, m.ok) (hz : chk G = 0) (hl : L.length ≤ 60) :
    Calls Try.prog 4 #[.agg #[.slice ao G.length cap], .slice bo L.length cap2] w fun r w' => r = .returned (.bool true) ∧ Below w.heap.size w w' := by
  have HG : Hid (∀ W, Below w.heap.size w W → VxAt W P ao G) := fun W hb => h.new hb
  have HL : Hid (∀ W, Below w.heap.size w W → UsAt W Q bo L) := fun W hb => hL.new hb
  have HOk : Hid (∀ v ∈ G, v.ok) := hok
  have HMo : Hid (∀ m ∈ L, m.ok) := hmo
  have HS0 : Hid _ := OB.start w ao G.length cap
  have HC : Hid _ := hz
  have HFi : Hid _ := fine_of hz
  have HUp : Hid _ := up_of hz hok
  have hGl : G.length ≤ 256 := (rise_of hz).1
  obtain ⟨n, hn⟩ : ∃ n, L.length = n := ⟨_, rfl⟩
  rw [hn] at hl ⊢
  have HN : Hid (L.length = n) := hn
  clear h hok hL hmo hz hn
  have hn60 : ¬ (60 : Int) < n := by omega
  go_enter Try.func4, Try.ntmps4
  go_wp2_with (first
    | (go_at_call 13; refine (ref_any G cap (HG.out _ HS0.out.low) HOk.out (by omega)).mono ?_; rintro r' w2 ⟨bo2, c2, rfl, hV2, hb2⟩; have hS2 := OB.new HS0.out hb2)
    | (go_at_call 14; refine (refcheck_any c2 hV2 (by omega) HOk.out).mono ?_; rintro r' w3 ⟨rfl, hb3⟩; rw [HC.out]; have hS3 := hS2.new hb3; have HS3 : Hid _ := hS3))
  clear hS2 hS3 hV2 hb2 hb3
  go_loopw [5] (fun i wr => ∃ j : Nat, j ≤ n ∧ i = .int .i64 j ∧ OB w wr ao G.length cap ∧ Hid (∀ q (hq : q < L.length), q < j → 1 ≤ L[q].k ∧ L[q].k ≤ 4)) (fun i _ => n - (intOf i).toNat)
  case atStart => exact ⟨0, Nat.zero_le _, rfl, HS3.out, fun q _ hq => absurd hq (by omega)⟩
  case round =>
    obtain ⟨j, hj, rfl, hO, hK⟩ := hrel
    clear HS3
    by_cases hlt : j < n
    · have hLn := HN.out
      obtain ⟨b, off, rfl, hP, hc⟩ := HL.out _ hO.low (by omega)
      have hjL : j < L.length := by omega
      have ck := (hc j hjL).1
      have HKj : Hid (∀ q (hq : q < L.length), q = j → L[q].k = L[j].k) := fun q hq e => by subst e; rfl
      generalize L[j].k = kj at ck HKj
      have HO : Hid _ := hO
      clear hO hc hLn
      by_cases hk1 : kj < 1
      · go_wp2_with (go_at_call 15; refine (awake6 _).mono ?_; rintro r' w4 ⟨rfl, hb4⟩; have hS4 := HO.out.new hb4)
        go_ret
        exact ⟨rfl, hS4.low⟩
      · by_cases hk4 : 4 < kj
        · go_wp2_with (go_at_call 15; refine (awake6 _).mono ?_; rintro r' w4 ⟨rfl, hb4⟩; have hS4 := HO.out.new hb4)
          go_ret
          exact ⟨rfl, hS4.low⟩
        · go_wp2
          go_roundw
          case rel => exact ⟨j + 1, by omega, by go_num, HO.out, fun q hq hqj => by
            by_cases e : q = j
            · rw [HKj.out q hq e]; omega
            · exact hK.out q hq (by omega)⟩
          case measure => simp [intOf]; omega
    · obtain rfl : j = n := by omega
      have HKa : Hid (∀ m ∈ L, 1 ≤ m.k ∧ m.k ≤ 4) := fun x hx => by
        obtain ⟨q, hq, rfl⟩ := List.getElem_of_mem hx
        exact hK.out q hq (by have := HN.out; omega)
      obtain ⟨AG, an, hA⟩ : ∃ AG an, appG G L = (AG, an) := ⟨_, _, rfl⟩
      have HA1 : Hid _ := hA
      have hAu := appG_up HFi.out HUp.out L
      have hAo := appG_okk HFi.out HUp.out HOk.out HMo.out (by have := HN.out; omega)
      rw [hA] at hAu hAo
      have hAl : AG.length ≤ 2108 := by have := hAu.1; have := HN.out; simp only at *; omega
      have HAe : Hid (∀ v ∈ AG, v.es.length ≤ 2108) := fun v hv => by have := hAu.2 v hv; have := HN.out; omega
      have HAo : Hid (∀ v ∈ AG, v.ok) := hAo
      have HAr : Hid (room AG ≤ 1000000000) := by show _ ≤ _; have h1 := room_up AG 2108 HAe.out; have h2 := Nat.mul_le_mul_right (30 + 20 * 2108) hAl; omega
      have HJL : Hid (j = L.length) := HN.out.symm
      have HO2 : Hid _ := hO
      have hcl := hO.cell
      clear hO hA hAu hAo hK
      go_upto_region 9 with (go_at_call 16; refine (apply_nv G cap L cap2 rfl HJL.out (HG.out _ HO2.out.low) HOk.out HFi.out HUp.out (by omega) (HL.out _ HO2.out.low) HKa.out HA1.out).mono ?_; rintro r' w5 ⟨so5, sc5, rfl, hV5, hb5⟩; have HV5 : Hid _ := hV5; have HB5 : Hid _ := hb5; clear hV5 hb5)
      obtain ⟨W6, hW6⟩ : ∃ W6, w5.alloc (.cells #[.slice so5 AG.length sc5] 24) = W6 := ⟨_, rfl⟩
      have hb6 : Below w5.heap.size w5 W6 := by rw [← hW6]; exact one_new _ _
      have hbx6 : W6.heap[w5.heap.size]? = some (.cells #[.slice so5 AG.length sc5] 24 (0, 0)) := by rw [← hW6]; exact heap_alloc_new _ _
      have hO6 : OB w W6 ao G.length cap := (HO2.out.new HB5.out).new hb6
      have HV6 : Hid (VxAt W6 _ so5 AG) := VxAt.new HV5.out hb6
      have HBX6 : Hid _ := hbx6
      have HO6 : Hid _ := hO6
      have hcl6 := hO6.cell
      simp only [hW6]
      clear hW6 hb6 hbx6 hO6 hcl HO2 HB5 HV5
      have HRf : Hid (∀ W, Below w.heap.size w W → Calls Try.prog 18 #[.slice bo j cap2] W fun r w' => ∃ lo lc, r = .returned (.slice lo L.length lc) ∧ UsAt w' (fun _ => True) lo L ∧ Below W.heap.size W w') := fun W hb => by
        rw [HJL.out]
        refine (refU_any L cap2 (HL.out W hb) (by have := HN.out; omega)).mono ?_
        rintro r' w' ⟨v, rfl, hR, hb'⟩
        obtain ⟨lo, lc, rfl, hU⟩ := RO.us hR
        exact ⟨lo, lc, rfl, hU, hb'⟩
      have HRo : Hid (∀ W, Below w.heap.size w W → Calls Try.prog 13 #[.agg #[.slice ao G.length cap]] W fun r w' => ∃ go gn gc M, r = .returned (.slice go gn gc) ∧ M.map (·.1) = G ∧ RG w' (.slice go gn gc) M ∧ Below W.heap.size W w') := fun W hb => by
        refine (ref_own G cap (HG.out W hb) HOk.out (by omega)).mono ?_
        rintro r' w' ⟨v, M, rfl, hM, hV, hb'⟩
        obtain ⟨go, gn, gc, rfl⟩ := own_any hV.row
        exact ⟨go, gn, gc, M, rfl, hM, ⟨own_low hV.row (Nat.zero_le _), fun x hx => own_low (hV.eds x hx) (Nat.zero_le _)⟩, hb'⟩
      have HAp : Hid (∀ W go gn gc M lo lc, M.map (·.1) = G → RG W (.slice go gn gc) M → UsAt W (fun _ => True) lo L → Calls Try.prog 17 #[.slice go gn gc, .slice lo L.length lc] W fun r w' => ∃ xo xc, r = .returned (.tuple #[.slice xo AG.length xc, .int .i64 an]) ∧ VxAt w' (fun _ => True) xo AG ∧ Below W.heap.size W w') := fun W go gn gc M lo lc hM hR hU => by
        have hc := refapply_any (N := 2048) L lc hR hU HKa.out (by rw [hM]; exact HFi.out) (by rw [hM]; exact HUp.out) (by have := HN.out; omega)
        rw [hM, HA1.out] at hc
        refine hc.mono ?_
        rintro r' w' ⟨v, M', rfl, hM', hR', hb'⟩
        obtain ⟨xo, xc, rfl, hV⟩ := hR'.at_
        simp only at hM'
        rw [hM'] at hV
        have hl : M'.length = AG.length := by rw [← hM', List.length_map]
        rw [hl]
        exact ⟨xo, xc, rfl, hV, hb'⟩
      go_upto_region 10 with (first
        | (go_at_call 13; refine (HRo.out _ HO6.out.low).mono ?_; rintro r' w7 ⟨go7, gn7, gc7, M7, rfl, hM7, hR7, hb7⟩; have HM7 : Hid _ := hM7; have HR7 : Hid _ := hR7; have HO7 : Hid _ := HO6.out.new hb7; have HV7 : Hid _ := VxAt.new HV6.out hb7; have HX7 : Hid _ := (hb7.block _ (lt_of_block HBX6.out)).trans HBX6.out; clear hM7 hR7 hb7)
        | (go_at_call 18; refine (HRf.out _ HO7.out.low).mono ?_; rintro r' w8 ⟨lo8, lc8, rfl, hU8, hb8⟩; have HU8 : Hid _ := hU8; have HR8 : Hid _ := RG.new HR7.out hb8; have HO8 : Hid _ := HO7.out.new hb8; have HV8 : Hid _ := VxAt.new HV7.out hb8; have HX8 : Hid _ := (hb8.block _ (lt_of_block HX7.out)).trans HX7.out; clear hU8 hb8)
        | (go_at_call 17; refine (HAp.out _ _ _ _ _ _ _ HM7.out HR8.out HU8.out).mono ?_; rintro r' w9 ⟨xo, xc, rfl, hV9, hb9⟩; have HVx : Hid _ := hV9; have HO9 : Hid _ := HO8.out.new hb9; have HV9 : Hid _ := VxAt.new HV8.out hb9; have HX9 : Hid _ := (hb9.block _ (lt_of_block HX8.out)).trans HX8.out; clear hV9 hb9))
      clear HRf HRo HAp HM7 HR7 HR8 HU8 HO7 HO8 HV7 HV8 HX7 HX8 hcl6
      have HAl : Hid (AG.length ≤ 4096) := by show _ ≤ _; omega
      have HAe2 : Hid (∀ v ∈ AG, v.es.length ≤ 4096) := fun v hv => by have := HAe.out v hv; omega
      go_wp2_with (first
        | (go_at_call 15; refine (awake6 _).mono ?_; rintro r' w10 ⟨rfl, hb10⟩; have hx10 := (hb10.block _ (lt_of_block HX9.out)).trans HX9.out; have x10 := cellG1 hx10; have HV10 : Hid _ := VxAt.new HV9.out hb10; have HVx10 : Hid _ := VxAt.new HVx.out hb10; have HO10 : Hid _ := HO9.out.new hb10; clear hx10 hb10)
        | (go_at_call 13; refine (ref_any AG sc5 HV10.out HAo.out (by omega)).mono ?_; rintro r' w11 ⟨bo11, c11, rfl, hV11, hb11⟩; have HV11 : Hid _ := hV11; have HVx11 : Hid _ := VxAt.new HVx10.out hb11; have HO11 : Hid _ := HO10.out.new hb11; clear hV11 hb11)
        | (go_at_call 12; have hh := HVx11.out; clear hh; refine (refbytes_big AG c11 HV11.out HAo.out HAl.out HAe2.out HAr.out).mono ?_; rintro r' w12 ⟨rfl, hb12⟩; have HVx12 : Hid _ := VxAt.new HVx11.out hb12; have HO12 : Hid _ := HO11.out.new hb12; clear hb12 HVx11)
        | (go_at_call 12; refine (refbytes_big AG xc HVx12.out HAo.out HAl.out HAe2.out HAr.out).mono ?_; rintro r' w13 ⟨rfl, hb13⟩; have HO13 : Hid _ := HO12.out.new hb13; clear hb13))
      go_ret
      exact ⟨by simp, HO13.out.low⟩
end Go.Proofs.Ythnhmhjcpdomcaa
end

section
/- How edges, vertices and graphs that came in are opened. -/
namespace Go.Proofs.Ythnhmhjcpdomcaa
open Go.RowKit Go.Deep Go.Joins Go.ChangeShapes
theorem cellsL : Try.prog.cellsOf 2 = 1 := by kernel_rfl
theorem cellsEs : Try.prog.cellsOf 82 = 1 := by kernel_rfl
theorem cellsVs : Try.prog.cellsOf 22 = 1 := by kernel_rfl
theorem cellsEd : Try.prog.cellsOf 81 = 2 := by kernel_rfl
theorem cellsVx : Try.prog.cellsOf 84 = 3 := by kernel_rfl
theorem cellsGr : Try.prog.cellsOf 24 = 1 := by kernel_rfl
theorem two_of {α : Type} {l : List α} (h : l.length = 2) : ∃ a b, l = [a, b] := by
  match l, h with
  | [a, b], _ => exact ⟨a, b, rfl⟩
theorem three_of {α : Type} {l : List α} (h : l.length = 3) : ∃ a b c, l = [a, b, c] := by
  match l, h with
  | [a, b, c], _ => exact ⟨a, b, c, rfl⟩
theorem add_none {b off : Nat} (j i : Nat) : (((⟨b, off, none⟩ : Addr).add j).add i) = ⟨b, off + j + i, none⟩ := by
  rw [add_add]
  unfold Addr.add
  split <;> simp_all <;> omega
section
variable {H : Type} {enc : TypeId × Value → H} {w : World} {base : Nat} {spare : Nat → Bool} {held : Bool}
def Ed.data (e : Ed) : DataW H := .agg [.lit (.int .i64 e.t), .lit (.int .i64 e.w)]
theorem i64_of {a : Int} (h : (Lit.int .i64 a).wf = true) : I64 a := by have := bounds_i64 h; unfold I64; omega
theorem open_ed {n : Nat} {cs : List Value} {x : DataW H × List MemPlace} (h : DataW.trod enc Try.prog w base spare held n 81 cs = some x) :
    ∃ y : Ed, cs = [.int .i64 y.t, .int .i64 y.w] ∧ x.1 = y.data ∧ y.ok := by
  obtain ⟨y0, y1, m, rfl, hl, h0, h1⟩ := trod_struct2 Try.underlying81 h
  rw [cellsEd] at hl
  obtain ⟨v0, v1, rfl⟩ := two_of hl
  simp only [cellsL] at h0 h1
  obtain ⟨a, e0, rfl, wa⟩ := DataW.trod_int Try.underlying2 h0
  obtain ⟨b, e1, rfl, wb⟩ := DataW.trod_int Try.underlying2 h1
  simp at e0 e1
  subst e0 e1
  exact ⟨⟨a, b⟩, rfl, rfl, ⟨i64_of wa, i64_of wb⟩⟩
theorem open_eds {n : Nat} {cs : List Value} {x : DataW H × List MemPlace} (h : DataW.trod enc Try.prog w base spare held n 82 cs = some x) :
    ∃ (ao : Option Addr) (cap : Nat) (L : List Ed), cs = [.slice ao L.length cap] ∧ (∀ y ∈ L, y.ok) ∧ L.length ≤ maxLen ∧ EdAt w (fun k => k < w.heap.size) ao L ∧ ((x.1 = .nil ∧ L = []) ∨ ∃ sp, x.1 = .slice (L.map Ed.data) sp) := by
  rcases open_slice Try.underlying82 h with ⟨h0, h1⟩ | ⟨a, len, cap, m, k, D, Pl, rfl, hb, hl, hm, hmm, rfl, hx⟩
  · exact ⟨none, 0, [], h0, fun y hy => (by cases hy), by simp, fun h => absurd h (by simp), Or.inl ⟨by rw [h1], rfl⟩⟩
  · have hlm : len ≤ m := by rw [hmm]; split <;> omega
    have each : ∀ i, i < len → ∃ y : Ed, w.cells? base (a.add (i * 2)) 2 = some [.int .i64 y.t, .int .i64 y.w] ∧ D i = y.data ∧ y.ok := by
      intro i hi
      obtain ⟨cs', h1, h2⟩ := hx i (by omega)
      rw [cellsEd] at h1
      obtain ⟨y, rfl, h3, h4⟩ := open_ed h2
      exact ⟨y, h1, h3, h4⟩
    haveI : Inhabited Ed := ⟨⟨0, 0⟩⟩
    obtain ⟨q, hq⟩ := choose_lt each
    have hlen : ((List.range len).map q).length = len := by simp
    refine ⟨some a, cap, (List.range len).map q, by rw [hlen], ?_, by rw [hlen]; omega, ?_, Or.inr ⟨(List.range (m - len)).map fun j => D (len + j), ?_⟩⟩
    · intro y hy
      obtain ⟨i, hi, rfl⟩ := List.mem_map.1 hy
      exact (hq i (List.mem_range.1 hi)).2.2
    · intro hpos
      rw [hlen] at hpos
      obtain ⟨_, _, hc0⟩ := World.cells?_some (hq 0 hpos).1
      have hs0 := World.cell?_spot (hc0 0 (by simp))
      have hspot : a.spot = none := by simpa [Addr.add] using hs0
      obtain ⟨b, off, spot⟩ := a
      simp only at hspot
      subst hspot
      have hcell : ∀ j (_ : j < len), w.cell? ⟨b, off + j * 2, none⟩ = some (.int .i64 (q j).t) ∧ w.cell? ⟨b, off + j * 2 + 1, none⟩ = some (.int .i64 (q j).w) := by
        intro j hj
        obtain ⟨_, _, hc⟩ := World.cells?_some (hq j hj).1
        have e0 := hc 0 (by simp)
        have e1 := hc 1 (by simp)
        rw [add_none] at e0 e1
        simp at e0 e1
        exact ⟨e0, e1⟩
      refine ⟨b, off, rfl, lt_cell (hcell 0 hpos).1, ?_⟩
      intro j hj
      have hj' : j < len := by simpa using hj
      simp only [List.getElem_map, List.getElem_range]
      exact hcell j hj'
    · show DataW.slice _ _ = _
      rw [List.map_map]
      congr 1
      exact List.map_congr_left (fun i hi => (hq i (List.mem_range.1 hi)).2.1)
/-- A vertex's three cells, opened. -/
theorem open_vx {n : Nat} {cs : List Value} {x : DataW H × List MemPlace} (h : DataW.trod enc Try.prog w base spare held n 84 cs = some x) :
    ∃ (y : Vx) (eo : Option Addr) (ec : Nat) (dx : DataW H), cs = [.int .i64 y.id, .int .i64 y.val, .slice eo y.es.length ec] ∧ I64 y.id ∧ I64 y.val ∧ (∀ e ∈ y.es, e.ok) ∧ y.es.length ≤ maxLen ∧ EdAt w (fun k => k < w.heap.size) eo y.es ∧ x.1 = .agg [.lit (.int .i64 y.id), .lit (.int .i64 y.val), dx] ∧ ((dx = .nil ∧ y.es = []) ∨ ∃ sp, dx = .slice (y.es.map Ed.data) sp) := by
  obtain ⟨y0, y1, y2, m, rfl, hl, h0, h1, h2⟩ := trod_struct3 Try.underlying84 h
  rw [cellsVx] at hl
  obtain ⟨v0, v1, v2, rfl⟩ := three_of hl
  simp only [cellsL, cellsEs] at h0 h1 h2
  obtain ⟨a, e0, rfl, wa⟩ := DataW.trod_int Try.underlying2 h0
  obtain ⟨b, e1, rfl, wb⟩ := DataW.trod_int Try.underlying2 h1
  obtain ⟨ao, cap, L, hcs, hok, hm, hE, hd⟩ := open_eds h2
  simp at e0 e1 hcs
  subst e0 e1 hcs
  exact ⟨⟨a, b, L⟩, ao, cap, y2.1, rfl, i64_of wa, i64_of wb, hok, hm, hE, rfl, hd⟩
end
end Go.Proofs.Ythnhmhjcpdomcaa
end

section
/- How a graph that came in is opened, with its bounds. -/
namespace Go.Proofs.Ythnhmhjcpdomcaa
open Go.RowKit Go.Deep Go.Joins Go.ChangeShapes
theorem bytesEd : Try.prog.bytesOf 81 = 16 := by kernel_rfl
theorem bytesVx : Try.prog.bytesOf 84 = 40 := by kernel_rfl
theorem mem_weightsAll {H : Type} {P : Program} {e : TypeId} : ∀ {ds : List (DataW H)} {d : DataW H} {n : Nat}, d ∈ ds → n ∈ d.weights P e → n ∈ DataW.weightsAll P e ds
  | [], _, _, h, _ => by cases h
  | d0 :: ds, d, n, h, hn => by
    simp only [DataW.weightsAll, List.mem_append]
    rcases List.mem_cons.1 h with rfl | h
    · exact Or.inl hn
    · exact Or.inr (mem_weightsAll h hn)
section
variable {H : Type} {enc : TypeId × Value → H} {w : World} {base : Nat} {spare : Nat → Bool} {held : Bool}
theorem vx_weight {y : Vx} {dx : DataW H} (hd : (dx = .nil ∧ y.es = []) ∨ ∃ sp, dx = .slice (y.es.map Ed.data) sp) (hw : ∀ m ∈ (DataW.agg [.lit (.int .i64 y.id), .lit (.int .i64 y.val), dx] : DataW H).weights Try.prog 84, m ≤ reachBytes) : y.es.length ≤ 8796093022208 := by
  rcases hd with ⟨_, h⟩ | ⟨sp, rfl⟩
  · rw [h]; simp
  · have := hw ((y.es.length + sp.length) * 16) (by
      have hu := Try.underlying84
      have hv := Try.underlying82
      simp [DataW.weights, DataW.weightsEach, hu, hv, bytesEd])
    unfold reachBytes at this
    omega
theorem open_vs {n : Nat} {cs : List Value} {x : DataW H × List MemPlace} (h : DataW.trod enc Try.prog w base spare held n 22 cs = some x) (hw : ∀ m ∈ x.1.weights Try.prog 22, m ≤ reachBytes) :
    ∃ (ao : Option Addr) (cap : Nat) (G : List Vx), cs = [.slice ao G.length cap] ∧ (∀ y ∈ G, y.ok) ∧ G.length * 40 ≤ 140737488355328 ∧ VxAt w (fun k => k < w.heap.size) ao G := by
  rcases open_slice Try.underlying22 h with ⟨h0, h1⟩ | ⟨a, len, cap, m, k, D, Pl, rfl, hb, hl, hm, hmm, rfl, hx⟩
  · exact ⟨none, 0, [], h0, fun y hy => (by cases hy), by simp, fun h => absurd h (by simp)⟩
  · have hlm : len ≤ m := by rw [hmm]; split <;> omega
    have hv := Try.underlying22
    have hlen40 : len * 40 ≤ 140737488355328 := by
      have := hw ((((List.range len).map D).length + ((List.range (m - len)).map fun j => D (len + j)).length) * 40) (by simp [DataW.weights, hv, bytesVx])
      unfold reachBytes at this
      simp only [List.length_map, List.length_range] at this
      omega
    have each : ∀ i, i < len → ∃ y : Vx, (∃ eo ec, w.cells? base (a.add (i * 3)) 3 = some [.int .i64 y.id, .int .i64 y.val, .slice eo y.es.length ec] ∧ EdAt w (fun k => k < w.heap.size) eo y.es) ∧ y.ok := by
      intro i hi
      obtain ⟨cs', h1, h2⟩ := hx i (by omega)
      rw [cellsVx] at h1
      obtain ⟨y, eo, ec, dx, rfl, hid, hvl, hes, _, hE, hD, hd⟩ := open_vx h2
      refine ⟨y, ⟨eo, ec, h1, hE⟩, hid, hvl, hes, vx_weight hd (fun m hm => hw m ?_)⟩
      simp only [DataW.weights, hv]
      refine List.mem_cons_of_mem _ (List.mem_append_left _ (mem_weightsAll (d := D i) (List.mem_map.2 ⟨i, List.mem_range.2 hi, rfl⟩) ?_))
      have hD' : D i = _ := hD
      rw [hD']
      exact hm
    haveI : Inhabited Vx := ⟨⟨0, 0, []⟩⟩
    obtain ⟨q, hq⟩ := choose_lt each
    have hlen : ((List.range len).map q).length = len := by simp
    refine ⟨some a, cap, (List.range len).map q, by rw [hlen], ?_, by rw [hlen]; exact hlen40, ?_⟩
    · intro y hy
      obtain ⟨i, hi, rfl⟩ := List.mem_map.1 hy
      exact (hq i (List.mem_range.1 hi)).2
    · intro hpos
      rw [hlen] at hpos
      obtain ⟨eo0, ec0, hq0, _⟩ := (hq 0 hpos).1
      obtain ⟨_, _, hc0⟩ := World.cells?_some hq0
      have hs0 := World.cell?_spot (hc0 0 (by simp))
      have hspot : a.spot = none := by simpa [Addr.add] using hs0
      obtain ⟨b, off, spot⟩ := a
      simp only at hspot
      subst hspot
      have hcell : ∀ j (_ : j < len), VxCell w (fun k => k < w.heap.size) b (off + j * 3) (q j) := by
        intro j hj
        obtain ⟨eo, ec, hqj, hE⟩ := (hq j hj).1
        obtain ⟨_, _, hc⟩ := World.cells?_some hqj
        have e0 := hc 0 (by simp)
        have e1 := hc 1 (by simp)
        have e2 := hc 2 (by simp)
        rw [add_none] at e0 e1 e2
        simp at e0 e1 e2
        exact ⟨eo, ec, e0, e1, e2, hE⟩
      refine ⟨b, off, rfl, ?_, ?_⟩
      · obtain ⟨_, _, e0, _⟩ := hcell 0 hpos
        exact lt_cell e0
      · intro j hj
        have hj' : j < len := by simpa using hj
        simp only [List.getElem_map, List.getElem_range]
        exact hcell j hj'
theorem open_gr {n : Nat} {cs : List Value} {x : DataW H × List MemPlace} (h : DataW.trod enc Try.prog w base spare held n 24 cs = some x) (hw : ∀ m ∈ x.1.weights Try.prog 24, m ≤ reachBytes) :
    ∃ (ao : Option Addr) (cap : Nat) (G : List Vx), cs = [.slice ao G.length cap] ∧ (∀ y ∈ G, y.ok) ∧ G.length * 40 ≤ 140737488355328 ∧ VxAt w (fun k => k < w.heap.size) ao G := by
  obtain ⟨y0, m, rfl, hl, h0⟩ := trod_struct1 Try.underlying24 h
  rw [cellsGr] at hl
  obtain ⟨v0, rfl⟩ : ∃ v, cs = [v] := List.length_eq_one_iff.1 hl
  simp only [cellsVs] at h0
  refine open_vs (x := y0) (by simpa using h0) (fun k hk => hw k ?_)
  have hu := Try.underlying24
  simp [DataW.weights, DataW.weightsEach, hu]
  exact hk
end
end Go.Proofs.Ythnhmhjcpdomcaa
end

section
/- How requests that came in are opened. -/
namespace Go.Proofs.Ythnhmhjcpdomcaa
open Go.RowKit Go.Deep Go.Joins Go.ChangeShapes
theorem u_cellsI : Try.prog.cellsOf 3 = 1 := by kernel_rfl
theorem u_cellsI6 : Try.prog.cellsOf 2 = 1 := by kernel_rfl
theorem u_cellsM : Try.prog.cellsOf 38 = 4 := by kernel_rfl
theorem u_bytesM : Try.prog.bytesOf 38 = 32 := by kernel_rfl
theorem u_four_of {α : Type} {l : List α} (h : l.length = 4) : ∃ a b c d, l = [a, b, c, d] := by
  match l, h with
  | [a, b, c, d], _ => exact ⟨a, b, c, d, rfl⟩
theorem u_add_none {b off : Nat} (j i : Nat) : (((⟨b, off, none⟩ : Addr).add j).add i) = ⟨b, off + j + i, none⟩ := by
  rw [add_add]
  unfold Addr.add
  split <;> simp_all <;> omega
section
variable {H : Type} {enc : TypeId × Value → H} {w : World} {base : Nat} {spare : Nat → Bool} {held : Bool}
def uData (m : Mu) : DataW H := .agg [.lit (.int .i64 m.k), .lit (.int .i64 m.i), .lit (.int .i64 m.t), .lit (.int .i64 m.v)]
theorem u_i64_of {a : Int} (h : (Lit.int .i64 a).wf = true) : I64 a := by have := bounds_i64 h; unfold I64; omega
theorem open_mu {n : Nat} {cs : List Value} {x : DataW H × List MemPlace} (h : DataW.trod enc Try.prog w base spare held n 38 cs = some x) :
    ∃ y : Mu, cs = muCells y ∧ x.1 = uData y ∧ y.ok := by
  obtain ⟨y0, y1, y2, y3, m, rfl, hl, h0, h1, h2, h3⟩ := trod_struct4 Try.underlying38 h
  rw [u_cellsM] at hl
  obtain ⟨v0, v1, v2, v3, rfl⟩ := u_four_of hl
  simp only [u_cellsI, u_cellsI6] at h0 h1 h2 h3
  obtain ⟨a, e0, rfl, wa⟩ := DataW.trod_int Try.underlying3 h0
  obtain ⟨b, e1, rfl, wb⟩ := DataW.trod_int Try.underlying2 h1
  obtain ⟨c, e2, rfl, wc⟩ := DataW.trod_int Try.underlying2 h2
  obtain ⟨d, e3, rfl, wd⟩ := DataW.trod_int Try.underlying2 h3
  simp at e0 e1 e2 e3
  subst e0 e1 e2 e3
  exact ⟨⟨a, b, c, d⟩, rfl, rfl, ⟨u_i64_of wa, u_i64_of wb, u_i64_of wc, u_i64_of wd⟩⟩
theorem open_mus {n : Nat} {cs : List Value} {x : DataW H × List MemPlace} (h : DataW.trod enc Try.prog w base spare held n 35 cs = some x) :
    ∃ (ao : Option Addr) (cap : Nat) (L : List Mu), cs = [.slice ao L.length cap] ∧ (∀ y ∈ L, y.ok) ∧ L.length ≤ cap ∧ (ao = none → cap = 0) ∧ UsAt w (fun k => k < w.heap.size) ao L ∧ ((x.1 = .nil ∧ L = []) ∨ ∃ sp, x.1 = .slice (L.map uData) sp) := by
  rcases open_slice Try.underlying35 h with ⟨h0, h1⟩ | ⟨a, len, cap, m, k, D, Pl, rfl, hb, hl, hm, hmm, rfl, hx⟩
  · exact ⟨none, 0, [], h0, fun y hy => (by cases hy), by simp, fun _ => rfl, fun h => absurd h (by simp), Or.inl ⟨by rw [h1], rfl⟩⟩
  · have hlm : len ≤ m := by rw [hmm]; split <;> omega
    have each : ∀ i, i < len → ∃ y : Mu, w.cells? base (a.add (i * 4)) 4 = some (muCells y) ∧ D i = uData y ∧ y.ok := by
      intro i hi
      obtain ⟨cs', h1, h2⟩ := hx i (by omega)
      rw [u_cellsM] at h1
      obtain ⟨y, rfl, h3, h4⟩ := open_mu h2
      exact ⟨y, h1, h3, h4⟩
    haveI : Inhabited Mu := ⟨⟨0, 0, 0, 0⟩⟩
    obtain ⟨q, hq⟩ := choose_lt each
    have hlen : ((List.range len).map q).length = len := by simp
    refine ⟨some a, cap, (List.range len).map q, by rw [hlen], ?_, by rw [hlen]; exact hl, fun h => (by cases h), ?_, Or.inr ⟨(List.range (m - len)).map fun j => D (len + j), ?_⟩⟩
    · intro y hy
      obtain ⟨i, hi, rfl⟩ := List.mem_map.1 hy
      exact (hq i (List.mem_range.1 hi)).2.2
    · intro hpos
      rw [hlen] at hpos
      obtain ⟨_, _, hc0⟩ := World.cells?_some (hq 0 hpos).1
      have hs0 := World.cell?_spot (hc0 0 (by simp))
      have hspot : a.spot = none := by simpa [Addr.add] using hs0
      obtain ⟨b, off, spot⟩ := a
      subst hspot
      have cells : ∀ j (hj : j < len), w.cell? ⟨b, off + j * 4, none⟩ = some (.int .i64 (q j).k) ∧ w.cell? ⟨b, off + j * 4 + 1, none⟩ = some (.int .i64 (q j).i) ∧ w.cell? ⟨b, off + j * 4 + 2, none⟩ = some (.int .i64 (q j).t) ∧ w.cell? ⟨b, off + j * 4 + 3, none⟩ = some (.int .i64 (q j).v) := by
        intro j hj
        obtain ⟨_, _, hc⟩ := World.cells?_some (hq j hj).1
        have g0 := hc 0 (by simp)
        have g1 := hc 1 (by simp)
        have g2 := hc 2 (by simp)
        have g3 := hc 3 (by simp)
        rw [u_add_none] at g0 g1 g2 g3
        exact ⟨g0, g1, g2, g3⟩
      refine ⟨b, off, rfl, lt_cell (cells 0 hpos).1, fun j hj => ?_⟩
      rw [hlen] at hj
      have hcj := cells j hj
      unfold UC
      simpa using hcj
    · apply congrArg (fun l => DataW.slice l _)
      rw [List.map_map]
      refine List.map_congr_left fun i hi => ?_
      exact (hq i (List.mem_range.1 hi)).2.1
end
end Go.Proofs.Ythnhmhjcpdomcaa
end
