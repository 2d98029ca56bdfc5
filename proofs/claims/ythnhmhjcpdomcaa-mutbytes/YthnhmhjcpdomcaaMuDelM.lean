import Derived.Test.YthnhmhjcpdomcaaGrBytes
import Derived.Test.YthnhmhjcpdomcaaGrCheck
import Derived.Deep.RegionHeld
import Derived.Test.YthnhmhjcpdomcaaRegU
import Derived.Test.YthnhmhjcpdomcaaMuBytesMM
import Derived.Test.YthnhmhjcpdomcaaMuRow
import Derived.Test.YthnhmhjcpdomcaaChecked
import Derived.Deep.RegionLaw
import Derived.WalkKit
section
/- What the document's VertexBytes and Bytes return. -/
namespace Go.Proofs.Ythnhmhjcpdomcaa
open Go.RowKit
theorem refsigned_g (k : Int) (w : World) (h : I64 k) :
    Calls Try.prog 27 #[.int .i64 k] w fun e w' => e = .returned (.string (str (sgB k))) ∧ Below w.heap.size w w' := by
  obtain ⟨h1, h2⟩ := h
  unfold sgB
  obtain ⟨m, HM⟩ : ∃ m : Nat, Hid (foldN k = m) := ⟨(foldN k).toNat, (Int.toNat_of_nonneg (fold_bd k h1 h2).1).symm⟩
  have hm : m < 18446744073709551616 := by have := fold_bd k h1 h2; have := HM.out; omega
  have hF : ∀ w, Calls Try.prog 54 #[.int .i64 k] w fun e w' => e = .returned (.int .u64 m) ∧ w' = w := fun w => by have := reffold_any k w h1 h2; rw [HM.out] at this; exact this
  rw [show (foldN k).toNat = m by rw [HM.out]; rfl]
  go_enter Try.func27, Try.ntmps27
  go_wp2_with (first
    | (go_at_call 54; refine (hF _).mono ?_; rintro r w1 ⟨rfl, rfl⟩)
    | (go_at_call 24; refine (refnumber_any m _ hm).mono ?_; rintro r w2 ⟨rfl, hh⟩))
  go_ret
  exact ⟨rfl, hh⟩
theorem box_below {W w1 : World} {B o : Nat} {u : Value} (hb : Below W.heap.size W w1) (h : W.cell? ⟨B, o, none⟩ = some u) : w1.cell? ⟨B, o, none⟩ = some u := (hb.cell (p := ⟨B, o, none⟩) (lt_cell h)).trans h
theorem run_add_str (a b : ByteArray) (h : a.size + b.size ≤ 9223372036854775807) (w : World) : (binOp .add 9 (.string a) (.string b)).run Try.prog w = .ok (.string (a ++ b)) w := by
  have hn : ¬ ((a.size + b.size : Nat) : Int) > IntKind.i64.max := by show ¬ ((a.size + b.size : Nat) : Int) > 9223372036854775807; omega
  simp only [binOp, Op.stringOp, if_neg hn]
  rfl

set_option maxRecDepth 100000 in
set_option maxHeartbeats 1600000 in
theorem vertexbytes_any {w : World} {P : Nat → Prop} {eo : Option Addr} (x : Vx) (ec : Nat) (hE : EdAt w P eo x.es) (hok : x.ok) (hl : x.es.length ≤ 2048) :
    Calls Try.prog 42 #[.agg #[.int .i64 x.id, .int .i64 x.val, .slice eo x.es.length ec]] w fun r w' => r = .returned (.string (str (vxB x))) ∧ Below w.heap.size w w' := by
  have H1 := sgB_len hok.id
  have H2 := sgB_len hok.val
  have H3 := numB_len10 (n := x.es.length) (by omega)
  have s1 : (str (sgB x.id)).size ≤ 10 := H1
  have s2 : (str (sgB x.val)).size ≤ 10 := H2
  have s3 : (str (numB x.es.length)).size ≤ 10 := H3
  have HI : Hid (I64 x.id ∧ I64 x.val) := ⟨hok.id, hok.val⟩
  have hN := fun W => refnumber_any x.es.length W (by omega)
  have hn1 := run_add_str (str (sgB x.id)) (str (sgB x.val)) (by omega)
  have hn2 := run_add_str (str (sgB x.id) ++ str (sgB x.val)) (str (numB x.es.length)) (by rw [ByteArray.size_append]; omega)
  have hcv : IntKind.u64.wrap (x.es.length : Int) = (x.es.length : Int) := by rw [IntKind.wrap_u64]; omega
  have HE : Hid (EdAt w P eo x.es) := hE
  have HO : Hid (∀ e ∈ x.es, e.ok) := hok.es
  clear hE hok
  go_enter Try.func42, Try.ntmps42
  go_wp2
  obtain ⟨W0, hW0⟩ : ∃ W0, w.alloc (.cells #[.int .i64 x.id, .int .i64 x.val, .slice eo x.es.length ec] 70) = W0 := ⟨_, rfl⟩
  obtain ⟨k0, k1, k2⟩ := box3 (show W0.heap[w.heap.size]? = _ by rw [← hW0]; exact heap_alloc_new _ _)
  have hb0 : Below w.heap.size w W0 := by rw [← hW0]; exact one_new _ _
  rw [hW0]
  go_region_held (fun w' => w'.cell? ⟨w.heap.size, 0, none⟩ = some (.int .i64 x.id) ∧ w'.cell? ⟨w.heap.size, 1, none⟩ = some (.int .i64 x.val) ∧ w'.cell? ⟨w.heap.size, 2, none⟩ = some (.slice eo x.es.length ec)) (first | exact hS1 | go_keep)
    (first
      | (go_at_call 27; refine (refsigned_g _ _ (by first | exact HI.out.1 | exact HI.out.2)).mono ?_; rintro r w1 ⟨rfl, hb1⟩; first | (have hB2 := hB1.trans (hb1.mono hB1.size); have hS1 := (⟨box_below hb1 hS1.1, box_below hb1 hS1.2.1, box_below hb1 hS1.2.2⟩ : w1.cell? ⟨w.heap.size, 0, none⟩ = some (.int .i64 x.id) ∧ w1.cell? ⟨w.heap.size, 1, none⟩ = some (.int .i64 x.val) ∧ w1.cell? ⟨w.heap.size, 2, none⟩ = some (.slice eo x.es.length ec))) | (have hB1 := hb0.trans ((below_c hb1).mono hb0.size); have hS1 := (⟨box_below hb1 k0, box_below hb1 k1, box_below hb1 k2⟩ : w1.cell? ⟨w.heap.size, 0, none⟩ = some (.int .i64 x.id) ∧ w1.cell? ⟨w.heap.size, 1, none⟩ = some (.int .i64 x.val) ∧ w1.cell? ⟨w.heap.size, 2, none⟩ = some (.slice eo x.es.length ec))))
      | (go_at_call 24; refine (hN _).mono ?_; rintro r w3 ⟨rfl, hb3⟩; have hB3 := hB2.trans (hb3.mono hB2.size); have hS1 := (⟨box_below hb3 hS1.1, box_below hb3 hS1.2.1, box_below hb3 hS1.2.2⟩ : w3.cell? ⟨w.heap.size, 0, none⟩ = some (.int .i64 x.id) ∧ w3.cell? ⟨w.heap.size, 1, none⟩ = some (.int .i64 x.val) ∧ w3.cell? ⟨w.heap.size, 2, none⟩ = some (.slice eo x.es.length ec))))
  all_goals
    clear hS1 k0 k1
    have HB3 : Hid (Below w.heap.size w w3) := hB3
    have q2 := (‹_ ∧ _ ∧ w3.cell? ⟨w.heap.size, 2, none⟩ = some (.slice eo x.es.length ec)›).2.2
    have HQ : Hid _ := q2
    clear q2 hN hcv hn1 hn2 s1 s2 s3 k2 hb0 HI
    go_wp2
    go_loopw [3, 4] (fun u i wr => ∃ (k : Nat), k ≤ x.es.length ∧ i = .int .i64 k ∧ u = .string (str (sgB x.id ++ sgB x.val ++ numB x.es.length ++ (x.es.take k).flatMap edB)) ∧ wr.cell? ⟨w.heap.size, 2, none⟩ = some (.slice eo x.es.length ec) ∧ Below w.heap.size w wr) (fun _ i _ => x.es.length - (intOf i).toNat)
    case atStart => exact ⟨0, Nat.zero_le _, rfl, by rw [str_append, str_append]; simp, HQ.out, HB3.out⟩
    case round =>
      obtain ⟨k, hk, rfl, rfl, hc2, hbr⟩ := hrel
      by_cases hlt : k < x.es.length
      · obtain ⟨b, off, rfl, hP, hc⟩ := HE.out (by omega)
        have f0 := (hbr.cell (p := ⟨b, off + k * 2, none⟩) (lt_cell (hc k hlt).1)).trans (hc k hlt).1
        have f1 := (hbr.cell (p := ⟨b, off + k * 2 + 1, none⟩) (lt_cell (hc k hlt).1)).trans (hc k hlt).2
        have HS : Hid _ := eds_snoc x.es k hlt
        have HZ : Hid (x.es[k].ok) := HO.out _ (List.getElem_mem hlt)
        have z1 : (str (sgB x.es[k].t)).size ≤ 10 := sgB_len HZ.out.t
        have z2 : (str (sgB x.es[k].w)).size ≤ 10 := sgB_len HZ.out.w
        have z0 : (str (sgB x.id ++ sgB x.val ++ numB x.es.length ++ (x.es.take k).flatMap edB)).size ≤ 100000 := by
          have h4 := edsB_len (x.es.take k) (fun e he => HO.out e (List.mem_of_mem_take he))
          rw [List.length_take] at h4
          show (_ : List UInt8).length ≤ _
          simp only [List.length_append]
          omega
        generalize x.es[k] = z at f0 f1 HS HZ z1 z2
        generalize hA : sgB x.id ++ sgB x.val ++ numB x.es.length ++ (x.es.take k).flatMap edB = A at z0 ⊢
        have HA : Hid _ := hA
        clear hc hA
        go_wp2
        go_region_held (fun w' => w'.cell? ⟨w.heap.size, 2, none⟩ = some (.slice (some ⟨b, off, none⟩) x.es.length ec) ∧ w'.cell? ⟨b, off + k * 2, none⟩ = some (.int .i64 z.t) ∧ w'.cell? ⟨b, off + k * 2 + 1, none⟩ = some (.int .i64 z.w)) (first | exact hS1 | go_keep)
          ((go_at_call 27; refine (refsigned_g _ _ (by first | exact HZ.out.t | exact HZ.out.w)).mono ?_; rintro r w1 ⟨rfl, hb1⟩; first | (have hB2 := hB1.trans (hb1.mono hB1.size); have hS1 := (⟨box_below hb1 hS1.1, box_below hb1 hS1.2.1, box_below hb1 hS1.2.2⟩ : w1.cell? ⟨w.heap.size, 2, none⟩ = some (.slice (some ⟨b, off, none⟩) x.es.length ec) ∧ w1.cell? ⟨b, off + k * 2, none⟩ = some (.int .i64 z.t) ∧ w1.cell? ⟨b, off + k * 2 + 1, none⟩ = some (.int .i64 z.w))) | (have hB1 := hbr.trans ((below_c hb1).mono hbr.size); have hS1 := (⟨box_below hb1 hc2, box_below hb1 f0, box_below hb1 f1⟩ : w1.cell? ⟨w.heap.size, 2, none⟩ = some (.slice (some ⟨b, off, none⟩) x.es.length ec) ∧ w1.cell? ⟨b, off + k * 2, none⟩ = some (.int .i64 z.t) ∧ w1.cell? ⟨b, off + k * 2 + 1, none⟩ = some (.int .i64 z.w)))))
        all_goals
          go_wp2
          go_roundw
          case rel => exact ⟨k + 1, by omega, by go_num, by rw [HS.out, ← List.append_assoc, HA.out, show edB z = sgB z.t ++ sgB z.w from rfl, str_append, str_append], (‹w1.cell? ⟨w.heap.size, 2, none⟩ = some (.slice (some ⟨b, off, none⟩) x.es.length ec) ∧ _›).1, hB2⟩
          case measure => simp [intOf]; omega
      · obtain rfl : k = x.es.length := by omega
        go_wp2
        go_ret
        exact ⟨by rw [List.take_length]; rfl, hbr⟩
end Go.Proofs.Ythnhmhjcpdomcaa
end

section
/- What the document's Bytes returns, of greater graphs, too. -/
namespace Go.Proofs.Ythnhmhjcpdomcaa
open Go.RowKit
set_option maxRecDepth 100000 in
set_option maxHeartbeats 1600000 in
theorem vertexbytes_big {w : World} {P : Nat → Prop} {eo : Option Addr} (x : Vx) (ec : Nat) (hE : EdAt w P eo x.es) (hok : x.ok) (hl : x.es.length ≤ 4096) :
    Calls Try.prog 42 #[.agg #[.int .i64 x.id, .int .i64 x.val, .slice eo x.es.length ec]] w fun r w' => r = .returned (.string (str (vxB x))) ∧ Below w.heap.size w w' := by
  have H1 := sgB_len hok.id
  have H2 := sgB_len hok.val
  have H3 := numB_len10 (n := x.es.length) (by omega)
  have s1 : (str (sgB x.id)).size ≤ 10 := H1
  have s2 : (str (sgB x.val)).size ≤ 10 := H2
  have s3 : (str (numB x.es.length)).size ≤ 10 := H3
  have HI : Hid (I64 x.id ∧ I64 x.val) := ⟨hok.id, hok.val⟩
  have hN := fun W => refnumber_any x.es.length W (by omega)
  have hn1 := run_add_str (str (sgB x.id)) (str (sgB x.val)) (by omega)
  have hn2 := run_add_str (str (sgB x.id) ++ str (sgB x.val)) (str (numB x.es.length)) (by rw [ByteArray.size_append]; omega)
  have hcv : IntKind.u64.wrap (x.es.length : Int) = (x.es.length : Int) := by rw [IntKind.wrap_u64]; omega
  have HE : Hid (EdAt w P eo x.es) := hE
  have HO : Hid (∀ e ∈ x.es, e.ok) := hok.es
  clear hE hok
  go_enter Try.func42, Try.ntmps42
  go_wp2
  obtain ⟨W0, hW0⟩ : ∃ W0, w.alloc (.cells #[.int .i64 x.id, .int .i64 x.val, .slice eo x.es.length ec] 70) = W0 := ⟨_, rfl⟩
  obtain ⟨k0, k1, k2⟩ := box3 (show W0.heap[w.heap.size]? = _ by rw [← hW0]; exact heap_alloc_new _ _)
  have hb0 : Below w.heap.size w W0 := by rw [← hW0]; exact one_new _ _
  rw [hW0]
  go_region_held (fun w' => w'.cell? ⟨w.heap.size, 0, none⟩ = some (.int .i64 x.id) ∧ w'.cell? ⟨w.heap.size, 1, none⟩ = some (.int .i64 x.val) ∧ w'.cell? ⟨w.heap.size, 2, none⟩ = some (.slice eo x.es.length ec)) (first | exact hS1 | go_keep)
    (first
      | (go_at_call 27; refine (refsigned_g _ _ (by first | exact HI.out.1 | exact HI.out.2)).mono ?_; rintro r w1 ⟨rfl, hb1⟩; first | (have hB2 := hB1.trans (hb1.mono hB1.size); have hS1 := (⟨box_below hb1 hS1.1, box_below hb1 hS1.2.1, box_below hb1 hS1.2.2⟩ : w1.cell? ⟨w.heap.size, 0, none⟩ = some (.int .i64 x.id) ∧ w1.cell? ⟨w.heap.size, 1, none⟩ = some (.int .i64 x.val) ∧ w1.cell? ⟨w.heap.size, 2, none⟩ = some (.slice eo x.es.length ec))) | (have hB1 := hb0.trans ((below_c hb1).mono hb0.size); have hS1 := (⟨box_below hb1 k0, box_below hb1 k1, box_below hb1 k2⟩ : w1.cell? ⟨w.heap.size, 0, none⟩ = some (.int .i64 x.id) ∧ w1.cell? ⟨w.heap.size, 1, none⟩ = some (.int .i64 x.val) ∧ w1.cell? ⟨w.heap.size, 2, none⟩ = some (.slice eo x.es.length ec))))
      | (go_at_call 24; refine (hN _).mono ?_; rintro r w3 ⟨rfl, hb3⟩; have hB3 := hB2.trans (hb3.mono hB2.size); have hS1 := (⟨box_below hb3 hS1.1, box_below hb3 hS1.2.1, box_below hb3 hS1.2.2⟩ : w3.cell? ⟨w.heap.size, 0, none⟩ = some (.int .i64 x.id) ∧ w3.cell? ⟨w.heap.size, 1, none⟩ = some (.int .i64 x.val) ∧ w3.cell? ⟨w.heap.size, 2, none⟩ = some (.slice eo x.es.length ec))))
  all_goals
    clear hS1 k0 k1
    have HB3 : Hid (Below w.heap.size w w3) := hB3
    have q2 := (‹_ ∧ _ ∧ w3.cell? ⟨w.heap.size, 2, none⟩ = some (.slice eo x.es.length ec)›).2.2
    have HQ : Hid _ := q2
    clear q2 hN hcv hn1 hn2 s1 s2 s3 k2 hb0 HI
    go_wp2
    go_loopw [3, 4] (fun u i wr => ∃ (k : Nat), k ≤ x.es.length ∧ i = .int .i64 k ∧ u = .string (str (sgB x.id ++ sgB x.val ++ numB x.es.length ++ (x.es.take k).flatMap edB)) ∧ wr.cell? ⟨w.heap.size, 2, none⟩ = some (.slice eo x.es.length ec) ∧ Below w.heap.size w wr) (fun _ i _ => x.es.length - (intOf i).toNat)
    case atStart => exact ⟨0, Nat.zero_le _, rfl, by rw [str_append, str_append]; simp, HQ.out, HB3.out⟩
    case round =>
      obtain ⟨k, hk, rfl, rfl, hc2, hbr⟩ := hrel
      by_cases hlt : k < x.es.length
      · obtain ⟨b, off, rfl, hP, hc⟩ := HE.out (by omega)
        have f0 := (hbr.cell (p := ⟨b, off + k * 2, none⟩) (lt_cell (hc k hlt).1)).trans (hc k hlt).1
        have f1 := (hbr.cell (p := ⟨b, off + k * 2 + 1, none⟩) (lt_cell (hc k hlt).1)).trans (hc k hlt).2
        have HS : Hid _ := eds_snoc x.es k hlt
        have HZ : Hid (x.es[k].ok) := HO.out _ (List.getElem_mem hlt)
        have z1 : (str (sgB x.es[k].t)).size ≤ 10 := sgB_len HZ.out.t
        have z2 : (str (sgB x.es[k].w)).size ≤ 10 := sgB_len HZ.out.w
        have z0 : (str (sgB x.id ++ sgB x.val ++ numB x.es.length ++ (x.es.take k).flatMap edB)).size ≤ 100000 := by
          have h4 := edsB_len (x.es.take k) (fun e he => HO.out e (List.mem_of_mem_take he))
          rw [List.length_take] at h4
          show (_ : List UInt8).length ≤ _
          simp only [List.length_append]
          omega
        generalize x.es[k] = z at f0 f1 HS HZ z1 z2
        generalize hA : sgB x.id ++ sgB x.val ++ numB x.es.length ++ (x.es.take k).flatMap edB = A at z0 ⊢
        have HA : Hid _ := hA
        clear hc hA
        go_wp2
        go_region_held (fun w' => w'.cell? ⟨w.heap.size, 2, none⟩ = some (.slice (some ⟨b, off, none⟩) x.es.length ec) ∧ w'.cell? ⟨b, off + k * 2, none⟩ = some (.int .i64 z.t) ∧ w'.cell? ⟨b, off + k * 2 + 1, none⟩ = some (.int .i64 z.w)) (first | exact hS1 | go_keep)
          ((go_at_call 27; refine (refsigned_g _ _ (by first | exact HZ.out.t | exact HZ.out.w)).mono ?_; rintro r w1 ⟨rfl, hb1⟩; first | (have hB2 := hB1.trans (hb1.mono hB1.size); have hS1 := (⟨box_below hb1 hS1.1, box_below hb1 hS1.2.1, box_below hb1 hS1.2.2⟩ : w1.cell? ⟨w.heap.size, 2, none⟩ = some (.slice (some ⟨b, off, none⟩) x.es.length ec) ∧ w1.cell? ⟨b, off + k * 2, none⟩ = some (.int .i64 z.t) ∧ w1.cell? ⟨b, off + k * 2 + 1, none⟩ = some (.int .i64 z.w))) | (have hB1 := hbr.trans ((below_c hb1).mono hbr.size); have hS1 := (⟨box_below hb1 hc2, box_below hb1 f0, box_below hb1 f1⟩ : w1.cell? ⟨w.heap.size, 2, none⟩ = some (.slice (some ⟨b, off, none⟩) x.es.length ec) ∧ w1.cell? ⟨b, off + k * 2, none⟩ = some (.int .i64 z.t) ∧ w1.cell? ⟨b, off + k * 2 + 1, none⟩ = some (.int .i64 z.w)))))
        all_goals
          go_wp2
          go_roundw
          case rel => exact ⟨k + 1, by omega, by go_num, by rw [HS.out, ← List.append_assoc, HA.out, show edB z = sgB z.t ++ sgB z.w from rfl, str_append, str_append], (‹w1.cell? ⟨w.heap.size, 2, none⟩ = some (.slice (some ⟨b, off, none⟩) x.es.length ec) ∧ _›).1, hB2⟩
          case measure => simp [intOf]; omega
      · obtain rfl : k = x.es.length := by omega
        go_wp2
        go_ret
        exact ⟨by rw [List.take_length]; rfl, hbr⟩
set_option maxRecDepth 100000 in
set_option maxHeartbeats 400000 in
theorem refbytes_big {w : World} {P : Nat → Prop} {ao : Option Addr} (G : List Vx) (cap : Nat) (hG : VxAt w P ao G) (hok : ∀ v ∈ G, v.ok) (hl : G.length ≤ 4096) (hes : ∀ v ∈ G, v.es.length ≤ 4096) (hr : room G ≤ 1000000000) :
    Calls Try.prog 12 #[.slice ao G.length cap] w fun r w' => r = .returned (.string (str (grB G))) ∧ Below w.heap.size w w' := by
  have hN := fun W => refnumber_any G.length W (by omega)
  have hcv : IntKind.u64.wrap (G.length : Int) = (G.length : Int) := by rw [IntKind.wrap_u64]; omega
  have s3 : (str (numB G.length)).size ≤ 10 := numB_len10 (n := G.length) (by omega)
  have HG : Hid (VxAt w P ao G) := hG
  have HO : Hid (∀ v ∈ G, v.ok) := hok
  have HE : Hid (∀ v ∈ G, v.es.length ≤ 4096) := hes
  clear hG hok hes
  go_enter Try.func12, Try.ntmps12
  go_wp2_with (go_at_call 24; refine (hN _).mono ?_; rintro r w3 ⟨rfl, hb3⟩)
  clear hN hcv
  go_loopw [3, 4] (fun u i wr => ∃ (k : Nat), k ≤ G.length ∧ i = .int .i64 k ∧ u = .string (str (numB G.length ++ (G.take k).flatMap vxB)) ∧ Below w.heap.size w wr) (fun _ i _ => G.length - (intOf i).toNat)
  case atStart => exact ⟨0, Nat.zero_le _, rfl, by simp, hb3⟩
  case round =>
    obtain ⟨k, hk, rfl, rfl, hbr⟩ := hrel
    by_cases hlt : k < G.length
    · have HV := HG.out.new hbr
      obtain ⟨b, off, rfl, hP, hc⟩ := HV (by omega)
      obtain ⟨eo, ec, f0, f1, f2, f3⟩ := hc k hlt
      have HS : Hid _ := vxs_snoc G k hlt
      have HZ : Hid (G[k].ok) := HO.out _ (List.getElem_mem hlt)
      have HL : Hid (G[k].es.length ≤ 4096) := HE.out _ (List.getElem_mem hlt)
      have HF : Hid (EdAt _ _ eo G[k].es) := f3
      have z1 : (str (vxB G[k])).size ≤ 100000 := by show (vxB G[k]).length ≤ _; have := vxB_len HZ.out; have := HL.out; omega
      have z0 : (str (numB G.length ++ (G.take k).flatMap vxB)).size ≤ 1000100000 := by
        have h4 := vxsB_len (G.take k) (fun e he => HO.out e (List.mem_of_mem_take he))
        have h5 := room_at hlt
        have h6 : (numB G.length).length ≤ 10 := s3
        show (_ : List UInt8).length ≤ _
        simp only [List.length_append]
        omega
      generalize G[k] = z at f0 f1 f2 HF HS HZ HL z1
      generalize hA : numB G.length ++ (G.take k).flatMap vxB = A at z0 ⊢
      have HA : Hid _ := hA
      clear hc hA f3 HV
      go_wp2_with (go_at_call 42; refine (vertexbytes_big z ec HF.out HZ.out HL.out).mono ?_; rintro r w4 ⟨rfl, hb4⟩; have hB4 := hbr.trans (hb4.mono hbr.size))
      go_roundw
      case rel => exact ⟨k + 1, by omega, by go_num, by rw [HS.out, ← List.append_assoc, HA.out, str_append], hB4⟩
      case measure => simp [intOf]; omega
    · obtain rfl : k = G.length := by omega
      go_wp2
      go_ret
      exact ⟨by rw [List.take_length]; rfl, hbr⟩
end Go.Proofs.Ythnhmhjcpdomcaa
end

section
/- Region 12 of MutBytes: a request's bytes behind the others', in any order. -/
namespace Go.Proofs.Ythnhmhjcpdomcaa
open Go.RowKit
theorem u64n {n : Nat} (h : n ≤ 9223372036854775807) : IntKind.u64.wrap (n : Int) = n := by rw [IntKind.wrap_u64]; omega
theorem unum_any (n : Nat) (w : World) (h : n ≤ 9223372036854775807) : Calls Try.prog 24 #[.int .u64 (n : Int)] w fun e w' => e = .returned (.string (str (numB n))) ∧ Below w.heap.size w w' := refnumber_any n w (by omega)
theorem usg_any (k : Int) (w : World) (h : I64 k) : Calls Try.prog 27 #[.int .i64 k] w fun e w' => e = .returned (.string (str (sgB k))) ∧ Below w.heap.size w w' := refsigned_g k w h
set_option maxRecDepth 100000 in
set_option maxHeartbeats 1000000 in
theorem mbytes_r12 {W0 : World} {A : Act} {bx kn : Nat} {ki kt kv : Int} {s0 z0 z1 z2 z3 : ByteArray} {Q : Exit → Act → World → Prop} (hsz : A.tmps.size = 161) (hA8 : A.eval (.tmp 8) = .pointer (some ⟨bx, 0, none⟩)) (hA6 : A.eval (.tmp 6) = .string s0) (hB : W0.heap[bx]? = some (.cells #[.int .i64 (kn : Int), .int .i64 ki, .int .i64 kt, .int .i64 kv] 38 (0, 0))) (hkn : kn ≤ 9223372036854775807) (hki : I64 ki) (hkt : I64 kt) (hkv : I64 kv) (hz0 : str (numB kn) = z0) (hzki : str (sgB ki) = z1) (hzkt : str (sgB kt) = z2) (hzkv : str (sgB kv) = z3) (hl1 : ¬ 9223372036854775807 < z0.size + z1.size) (hl2 : ¬ 9223372036854775807 < z0.size + z1.size + z2.size) (hl3 : ¬ 9223372036854775807 < z0.size + z1.size + z2.size + z3.size) (hl4 : ¬ 9223372036854775807 < s0.size + (z0.size + z1.size + z2.size + z3.size))
    (HK : ∀ X W, Below W0.heap.size W0 W → X 6 = .string (s0 ++ (z0 ++ z1 ++ z2 ++ z3)) → Q .normal (puts A X [64, 65, 66, 67, 68, 69, 70, 71, 72, 73, 74, 75, 76, 77, 78, 79, 80, 81, 6]) W) :
    Code.wp Try.prog ((Try.f7.body.bind (regionJ 12)).getD .skip) Q A W0 := by
  obtain ⟨ds, hds⟩ : ∃ ds, [64, 65, 66, 67, 68, 69, 70, 71, 72, 73, 74, 75, 76, 77, 78, 79, 80, 81, 6] = ds := ⟨_, rfl⟩
  have hin : ∀ {X : Nat → Value} {k : Nat}, k ∈ [64, 65, 66, 67, 68, 69, 70, 71, 72, 73, 74, 75, 76, 77, 78, 79, 80, 81, 6] → (puts A X ds).eval (.tmp k) = X k := fun hk => by rw [← hds]; exact eval_in hk (by rw [hsz]; revert hk; simp only [List.mem_cons, List.not_mem_nil, or_false]; omega)
  have hout : ∀ {X : Nat → Value} {k : Nat}, k ∉ [64, 65, 66, 67, 68, 69, 70, 71, 72, 73, 74, 75, 76, 77, 78, 79, 80, 81, 6] → (puts A X ds).eval (.tmp k) = A.eval (.tmp k) := fun hk => by rw [← hds]; exact eval_out hk
  have g0 : ds.getD 0 0 = 64 := by rw [← hds]; rfl
  have g1 : ds.getD 1 0 = 65 := by rw [← hds]; rfl
  have g2 : ds.getD 2 0 = 66 := by rw [← hds]; rfl
  have g3 : ds.getD 3 0 = 67 := by rw [← hds]; rfl
  have g4 : ds.getD 4 0 = 68 := by rw [← hds]; rfl
  have g5 : ds.getD 5 0 = 69 := by rw [← hds]; rfl
  have g6 : ds.getD 6 0 = 70 := by rw [← hds]; rfl
  have g7 : ds.getD 7 0 = 71 := by rw [← hds]; rfl
  have g8 : ds.getD 8 0 = 72 := by rw [← hds]; rfl
  have g9 : ds.getD 9 0 = 73 := by rw [← hds]; rfl
  have g10 : ds.getD 10 0 = 74 := by rw [← hds]; rfl
  have g11 : ds.getD 11 0 = 75 := by rw [← hds]; rfl
  have g12 : ds.getD 12 0 = 76 := by rw [← hds]; rfl
  have g13 : ds.getD 13 0 = 77 := by rw [← hds]; rfl
  have g14 : ds.getD 14 0 = 78 := by rw [← hds]; rfl
  have g15 : ds.getD 15 0 = 79 := by rw [← hds]; rfl
  have g16 : ds.getD 16 0 = 80 := by rw [← hds]; rfl
  have g17 : ds.getD 17 0 = 81 := by rw [← hds]; rfl
  have g18 : ds.getD 18 0 = 6 := by rw [← hds]; rfl
  obtain ⟨V, hV, e0, e1, e2, e3, e4, e5, e6, e7, e8, e9, e10, e11, e12, e13, e14, e15, e16, e17, e18⟩ : ∃ V : Nat → Value → World → Prop, (∀ i v W W', V i v W → Below W.heap.size W W' → V i v W') ∧ (∀ v W, V 0 v W = (v = .string s0)) ∧ (∀ v W, V 1 v W = (v = .pointer (some ⟨bx, 0, none⟩))) ∧ (∀ v W, V 2 v W = (v = .int .i64 (kn : Int))) ∧ (∀ v W, V 3 v W = (v = .int .u64 (kn : Int))) ∧ (∀ v W, V 4 v W = (v = .string z0)) ∧ (∀ v W, V 5 v W = (v = .pointer (some ⟨bx, 1, none⟩))) ∧ (∀ v W, V 6 v W = (v = .int .i64 ki)) ∧ (∀ v W, V 7 v W = (v = .string z1)) ∧ (∀ v W, V 8 v W = (v = .string (z0 ++ z1))) ∧ (∀ v W, V 9 v W = (v = .pointer (some ⟨bx, 2, none⟩))) ∧ (∀ v W, V 10 v W = (v = .int .i64 kt)) ∧ (∀ v W, V 11 v W = (v = .string z2)) ∧ (∀ v W, V 12 v W = (v = .string (z0 ++ z1 ++ z2))) ∧ (∀ v W, V 13 v W = (v = .pointer (some ⟨bx, 3, none⟩))) ∧ (∀ v W, V 14 v W = (v = .int .i64 kv)) ∧ (∀ v W, V 15 v W = (v = .string z3)) ∧ (∀ v W, V 16 v W = (v = .string (z0 ++ z1 ++ z2 ++ z3))) ∧ (∀ v W, V 17 v W = (v = .string (s0 ++ (z0 ++ z1 ++ z2 ++ z3)))) ∧ (∀ v W, V 18 v W = (v = .string (s0 ++ (z0 ++ z1 ++ z2 ++ z3)))) := by
    refine ⟨fun i v W => match i with
      | 0 => v = .string s0
      | 1 => v = .pointer (some ⟨bx, 0, none⟩)
      | 2 => v = .int .i64 (kn : Int)
      | 3 => v = .int .u64 (kn : Int)
      | 4 => v = .string z0
      | 5 => v = .pointer (some ⟨bx, 1, none⟩)
      | 6 => v = .int .i64 ki
      | 7 => v = .string z1
      | 8 => v = .string (z0 ++ z1)
      | 9 => v = .pointer (some ⟨bx, 2, none⟩)
      | 10 => v = .int .i64 kt
      | 11 => v = .string z2
      | 12 => v = .string (z0 ++ z1 ++ z2)
      | 13 => v = .pointer (some ⟨bx, 3, none⟩)
      | 14 => v = .int .i64 kv
      | 15 => v = .string z3
      | 16 => v = .string (z0 ++ z1 ++ z2 ++ z3)
      | 17 => v = .string (s0 ++ (z0 ++ z1 ++ z2 ++ z3))
      | 18 => v = .string (s0 ++ (z0 ++ z1 ++ z2 ++ z3))
      | _ => True, ?_, fun _ _ => rfl, fun _ _ => rfl, fun _ _ => rfl, fun _ _ => rfl, fun _ _ => rfl, fun _ _ => rfl, fun _ _ => rfl, fun _ _ => rfl, fun _ _ => rfl, fun _ _ => rfl, fun _ _ => rfl, fun _ _ => rfl, fun _ _ => rfl, fun _ _ => rfl, fun _ _ => rfl, fun _ _ => rfl, fun _ _ => rfl, fun _ _ => rfl, fun _ _ => rfl⟩
    intro i v W W' h hb
    match i, h with
    | 0, h => exact h
    | 1, h => exact h
    | 2, h => exact h
    | 3, h => exact h
    | 4, h => exact h
    | 5, h => exact h
    | 6, h => exact h
    | 7, h => exact h
    | 8, h => exact h
    | 9, h => exact h
    | 10, h => exact h
    | 11, h => exact h
    | 12, h => exact h
    | 13, h => exact h
    | 14, h => exact h
    | 15, h => exact h
    | 16, h => exact h
    | 17, h => exact h
    | 18, h => exact h
    | _ + 19, _ => trivial
  conv => arg 2; whnf
  refine wp_region_U ds V (by kernel_rfl) (by kernel_rfl) (by rw [← hds]; kernel_rfl) hV ?_ ?_
  · refine ⟨?_, ?_, ?_, ?_, ?_, ?_, ?_, ?_, ?_, ?_, ?_, ?_, ?_, ?_, ?_, ?_, ?_, ?_, ?_, trivial⟩
    all_goals intro X W hb hd hu
    · have o0 := hu 18 (by decide) (by kernel_rfl)
      rw [g18, hA6] at o0
      have h0 := (hin (X := X) (k := 6) (by decide)).trans o0
      refine v_value (V := V 0) (v := .string s0) ?_ (by rw [e0])
      generalize (puts A X ds).eval = ρ at h0 ⊢
      go_simp
    · have h0 := hout (X := X) (k := 8) (by decide)
      rw [hA8] at h0
      refine v_value (V := V 1) (v := .pointer (some ⟨bx, 0, none⟩)) ?_ (by rw [e1])
      generalize (puts A X ds).eval = ρ at h0 ⊢
      go_simp
    · have d0 := hd 1 (by kernel_rfl)
      rw [e1, g1] at d0
      have h0 := (hin (X := X) (k := 65) (by decide)).trans d0
      have c0 := (show W.cell? ⟨bx, 0, none⟩ = some (.int .i64 (kn : Int)) from (u_cellsP ((hb.block _ (Array.getElem?_eq_some_iff.1 hB).1).trans hB)).1)
      refine v_value (V := V 2) (v := .int .i64 (kn : Int)) ?_ (by rw [e2])
      generalize (puts A X ds).eval = ρ at h0 ⊢
      go_simp
    · have d0 := hd 2 (by kernel_rfl)
      rw [e2, g2] at d0
      have h0 := (hin (X := X) (k := 66) (by decide)).trans d0
      have hcv := u64n hkn
      refine v_value (V := V 3) (v := .int .u64 (kn : Int)) ?_ (by rw [e3])
      generalize (puts A X ds).eval = ρ at h0 ⊢
      go_simp
    · have d0 := hd 3 (by kernel_rfl)
      rw [e3, g3] at d0
      have h0 := (hin (X := X) (k := 67) (by decide)).trans d0
      have hf : (puts A X ds).eval (.func 24) = .func (.func 24) #[] #[] := rfl
      refine v_call (V := V 4) (f := 24) (vs := #[.int .u64 (kn : Int)]) ?_ ?_
      · generalize (puts A X ds).eval = ρ at h0 hf ⊢
        go_simp
      · refine (unum_any kn W hkn).mono ?_
        rintro r W' ⟨rfl, hb'⟩
        exact ⟨_, rfl, by rw [e4, hz0], hb'⟩
    · have h0 := hout (X := X) (k := 8) (by decide)
      rw [hA8] at h0
      refine v_value (V := V 5) (v := .pointer (some ⟨bx, 1, none⟩)) ?_ (by rw [e5])
      generalize (puts A X ds).eval = ρ at h0 ⊢
      go_simp
    · have d0 := hd 5 (by kernel_rfl)
      rw [e5, g5] at d0
      have h0 := (hin (X := X) (k := 69) (by decide)).trans d0
      have c1 := (show W.cell? ⟨bx, 1, none⟩ = some (.int .i64 ki) from (u_cellsP ((hb.block _ (Array.getElem?_eq_some_iff.1 hB).1).trans hB)).2.1)
      refine v_value (V := V 6) (v := .int .i64 ki) ?_ (by rw [e6])
      generalize (puts A X ds).eval = ρ at h0 ⊢
      go_simp
    · have d0 := hd 6 (by kernel_rfl)
      rw [e6, g6] at d0
      have h0 := (hin (X := X) (k := 70) (by decide)).trans d0
      have hf : (puts A X ds).eval (.func 27) = .func (.func 27) #[] #[] := rfl
      refine v_call (V := V 7) (f := 27) (vs := #[.int .i64 ki]) ?_ ?_
      · generalize (puts A X ds).eval = ρ at h0 hf ⊢
        go_simp
      · refine (usg_any ki W hki).mono ?_
        rintro r W' ⟨rfl, hb'⟩
        exact ⟨_, rfl, by rw [e7, hzki], hb'⟩
    · have d0 := hd 4 (by kernel_rfl)
      rw [e4, g4] at d0
      have h0 := (hin (X := X) (k := 68) (by decide)).trans d0
      have d1 := hd 7 (by kernel_rfl)
      rw [e7, g7] at d1
      have h1 := (hin (X := X) (k := 71) (by decide)).trans d1
      have hs1 := hl1
      refine v_value (V := V 8) (v := .string (z0 ++ z1)) ?_ (by rw [e8])
      generalize (puts A X ds).eval = ρ at h0 h1 ⊢
      go_simp
    · have h0 := hout (X := X) (k := 8) (by decide)
      rw [hA8] at h0
      refine v_value (V := V 9) (v := .pointer (some ⟨bx, 2, none⟩)) ?_ (by rw [e9])
      generalize (puts A X ds).eval = ρ at h0 ⊢
      go_simp
    · have d0 := hd 9 (by kernel_rfl)
      rw [e9, g9] at d0
      have h0 := (hin (X := X) (k := 73) (by decide)).trans d0
      have c2 := (show W.cell? ⟨bx, 2, none⟩ = some (.int .i64 kt) from (u_cellsP ((hb.block _ (Array.getElem?_eq_some_iff.1 hB).1).trans hB)).2.2.1)
      refine v_value (V := V 10) (v := .int .i64 kt) ?_ (by rw [e10])
      generalize (puts A X ds).eval = ρ at h0 ⊢
      go_simp
    · have d0 := hd 10 (by kernel_rfl)
      rw [e10, g10] at d0
      have h0 := (hin (X := X) (k := 74) (by decide)).trans d0
      have hf : (puts A X ds).eval (.func 27) = .func (.func 27) #[] #[] := rfl
      refine v_call (V := V 11) (f := 27) (vs := #[.int .i64 kt]) ?_ ?_
      · generalize (puts A X ds).eval = ρ at h0 hf ⊢
        go_simp
      · refine (usg_any kt W hkt).mono ?_
        rintro r W' ⟨rfl, hb'⟩
        exact ⟨_, rfl, by rw [e11, hzkt], hb'⟩
    · have d0 := hd 8 (by kernel_rfl)
      rw [e8, g8] at d0
      have h0 := (hin (X := X) (k := 72) (by decide)).trans d0
      have d1 := hd 11 (by kernel_rfl)
      rw [e11, g11] at d1
      have h1 := (hin (X := X) (k := 75) (by decide)).trans d1
      have hs1 := hl2
      refine v_value (V := V 12) (v := .string (z0 ++ z1 ++ z2)) ?_ (by rw [e12])
      generalize (puts A X ds).eval = ρ at h0 h1 ⊢
      go_simp
    · have h0 := hout (X := X) (k := 8) (by decide)
      rw [hA8] at h0
      refine v_value (V := V 13) (v := .pointer (some ⟨bx, 3, none⟩)) ?_ (by rw [e13])
      generalize (puts A X ds).eval = ρ at h0 ⊢
      go_simp
    · have d0 := hd 13 (by kernel_rfl)
      rw [e13, g13] at d0
      have h0 := (hin (X := X) (k := 77) (by decide)).trans d0
      have c3 := (show W.cell? ⟨bx, 3, none⟩ = some (.int .i64 kv) from (u_cellsP ((hb.block _ (Array.getElem?_eq_some_iff.1 hB).1).trans hB)).2.2.2)
      refine v_value (V := V 14) (v := .int .i64 kv) ?_ (by rw [e14])
      generalize (puts A X ds).eval = ρ at h0 ⊢
      go_simp
    · have d0 := hd 14 (by kernel_rfl)
      rw [e14, g14] at d0
      have h0 := (hin (X := X) (k := 78) (by decide)).trans d0
      have hf : (puts A X ds).eval (.func 27) = .func (.func 27) #[] #[] := rfl
      refine v_call (V := V 15) (f := 27) (vs := #[.int .i64 kv]) ?_ ?_
      · generalize (puts A X ds).eval = ρ at h0 hf ⊢
        go_simp
      · refine (usg_any kv W hkv).mono ?_
        rintro r W' ⟨rfl, hb'⟩
        exact ⟨_, rfl, by rw [e15, hzkv], hb'⟩
    · have d0 := hd 12 (by kernel_rfl)
      rw [e12, g12] at d0
      have h0 := (hin (X := X) (k := 76) (by decide)).trans d0
      have d1 := hd 15 (by kernel_rfl)
      rw [e15, g15] at d1
      have h1 := (hin (X := X) (k := 79) (by decide)).trans d1
      have hs1 := hl3
      refine v_value (V := V 16) (v := .string (z0 ++ z1 ++ z2 ++ z3)) ?_ (by rw [e16])
      generalize (puts A X ds).eval = ρ at h0 h1 ⊢
      go_simp
    · have d0 := hd 0 (by kernel_rfl)
      rw [e0, g0] at d0
      have h0 := (hin (X := X) (k := 64) (by decide)).trans d0
      have d1 := hd 16 (by kernel_rfl)
      rw [e16, g16] at d1
      have h1 := (hin (X := X) (k := 80) (by decide)).trans d1
      have hs1 := hl4
      refine v_value (V := V 17) (v := .string (s0 ++ (z0 ++ z1 ++ z2 ++ z3))) ?_ (by rw [e17])
      generalize (puts A X ds).eval = ρ at h0 h1 ⊢
      go_simp
    · have d0 := hd 17 (by kernel_rfl)
      rw [e17, g17] at d0
      have h0 := (hin (X := X) (k := 81) (by decide)).trans d0
      refine v_value (V := V 18) (v := .string (s0 ++ (z0 ++ z1 ++ z2 ++ z3))) ?_ (by rw [e18])
      generalize (puts A X ds).eval = ρ at h0 ⊢
      go_simp
  · intro X W hb hall
    have r0 := hall 0 (by decide)
    rw [e0, g0] at r0
    have r1 := hall 1 (by decide)
    rw [e1, g1] at r1
    have r2 := hall 2 (by decide)
    rw [e2, g2] at r2
    have r3 := hall 3 (by decide)
    rw [e3, g3] at r3
    have r4 := hall 4 (by decide)
    rw [e4, g4] at r4
    have r5 := hall 5 (by decide)
    rw [e5, g5] at r5
    have r6 := hall 6 (by decide)
    rw [e6, g6] at r6
    have r7 := hall 7 (by decide)
    rw [e7, g7] at r7
    have r8 := hall 8 (by decide)
    rw [e8, g8] at r8
    have r9 := hall 9 (by decide)
    rw [e9, g9] at r9
    have r10 := hall 10 (by decide)
    rw [e10, g10] at r10
    have r11 := hall 11 (by decide)
    rw [e11, g11] at r11
    have r12 := hall 12 (by decide)
    rw [e12, g12] at r12
    have r13 := hall 13 (by decide)
    rw [e13, g13] at r13
    have r14 := hall 14 (by decide)
    rw [e14, g14] at r14
    have r15 := hall 15 (by decide)
    rw [e15, g15] at r15
    have r16 := hall 16 (by decide)
    rw [e16, g16] at r16
    have r17 := hall 17 (by decide)
    rw [e17, g17] at r17
    have r18 := hall 18 (by decide)
    rw [e18, g18] at r18
    have := HK X W hb (by first | assumption | exact ⟨by assumption, by assumption⟩ | exact ⟨by assumption, by assumption, by assumption⟩ | simp_all)
    rw [hds] at this
    exact this
end Go.Proofs.Ythnhmhjcpdomcaa
end

section
/- slices.Delete of one element, at edges and at vertices: in place. -/
namespace Go.Proofs.Ythnhmhjcpdomcaa
open Go.RowKit
/-- What stands behind a deletion. -/
theorem del_list {cur : List Value} {n i k : Nat} {z : List Value} (hi : i < n) (hc : n * k ≤ cur.length) (hz : z.length = k) :
    (over (over cur (i * k) ((cur.take (n * k)).drop ((i + 1) * k))) ((n - 1) * k) z).take ((n - 1) * k) = (cur.take (n * k)).take (i * k) ++ (cur.take (n * k)).drop ((i + 1) * k) := by
  have e1 : (i + 1) * k ≤ n * k := Nat.mul_le_mul_right k hi
  have e2 : (i + 1) * k = i * k + k := Nat.succ_mul i k
  have e3 : (n - 1) * k = n * k - k := by rw [Nat.sub_mul, Nat.one_mul]
  have hl : ((cur.take (n * k)).drop ((i + 1) * k)).length = n * k - (i + 1) * k := by rw [List.length_drop, List.length_take]; omega
  rw [over_take_lo _ _ _ (Nat.le_refl _) (by rw [over_len _ _ _ (by rw [hl]; omega)]; omega)]
  have h5 : (n - 1) * k = i * k + ((cur.take (n * k)).drop ((i + 1) * k)).length := by rw [hl]; omega
  rw [h5, over_take_at _ _ _ (by omega), List.take_take, Nat.min_eq_left (by omega)]

theorem mInfoE : (Try.prog.info? 81).map (fun i => (i.zero, i.size, i.bytes)) = some (some (.agg #[.int .i64 0, .int .i64 0]), 2, 16) := by kernel_rfl
set_option maxHeartbeats 4000000 in
set_option maxRecDepth 100000 in
theorem delE_blk {w : World} {base g cap : Nat} {cur : List Value} (h : Blk w base 81 2 g cap cur) (n i j : Nat) (h1 : ∀ u ∈ cur.take (n * 2), u.oneCell' = true) (hj : j = i + 1) (hi : i < n) (hn : n ≤ cap) :
    Calls Try.prog 100 #[.slice (some ⟨g, 0, none⟩) n cap, .int .i64 i, .int .i64 j] w fun e w' => e = .returned (.slice (some ⟨g, 0, none⟩) (n - 1) cap) ∧ w' = (w.drew.setCells g (i * 2) ((cur.take (n * 2)).drop ((i + 1) * 2))).setCells g ((n - 1) * 2) [.int .i64 0, .int .i64 0] := by
  obtain ⟨i0, hi0, hz0, hzs, hzb⟩ := info_parts mInfoE
  have hzc : (Builtin.zeroCells (.agg #[.int .i64 0, .int .i64 0] : Value).cells 1).toList = [.int .i64 0, .int .i64 0] := by kernel_rfl
  have hmax : cap ≤ 9223372036854775807 := by have := h.max; unfold maxLen at this; omega
  have hnk : n * 2 ≤ cap * 2 := Nat.mul_le_mul_right _ hn
  have hlc : cur.length = cap * 2 := h.size
  obtain ⟨news, hnews⟩ : ∃ news, news = (cur.take (n * 2)).drop ((i + 1) * 2) := ⟨_, rfl⟩
  have hlen : news.length = (n - (i + 1)) * 2 := by rw [hnews, List.length_drop, List.length_take]; omega
  have hget : ∀ t u, news[t]? = some u → cur[(i + 1) * 2 + t]? = some u := by
    intro t u hu
    rw [hnews, List.getElem?_drop, List.getElem?_take] at hu
    split at hu
    · exact hu
    · cases hu
  obtain ⟨A, hA, hsrc⟩ : ∃ A : Addr, (if cap = j then some (⟨g, 0, none⟩ : Addr) else some ⟨g, j * 2, none⟩) = some A ∧ Hid (∀ t u, news[t]? = some u → w.drew.cell? (A.add t) = some u) := by
    by_cases hc : cap = j
    · refine ⟨⟨g, 0, none⟩, by simp [hc], fun t u hu => ?_⟩
      have h0 : news.length = 0 := by rw [hlen]; omega
      rw [List.length_eq_zero_iff.1 h0] at hu
      simp at hu
    · refine ⟨⟨g, j * 2, none⟩, by simp [hc], fun t u hu => ?_⟩
      rw [Addr.add_lit, hj]
      exact (h.cell _).trans (hget t u hu)
  have s1 : Hid (news.length = (n - j) * 2) := by show _ = _; rw [hj]; exact hlen
  have s2 : Hid (∀ u ∈ news, u.oneCell' = true) := by
    intro u hu
    rw [hnews] at hu
    exact h1 u (List.mem_of_mem_drop hu)
  have s3 : Hid (∀ t, t < news.length → (w.drew.cell? ⟨g, 0 + i * 2 + t, none⟩).isSome = true ∧ w.drew.frozen? ⟨g, 0 + i * 2 + t, none⟩ = false) := by
    intro t ht
    rw [hlen] at ht
    exact ⟨h.there (by omega), h.soft _⟩
  have hB1 := h.drew.set (i * 2) news (by rw [hlen]; omega)
  obtain ⟨W1, hW1⟩ : ∃ W1, W1 = w.drew.setCells g (i * 2) news := ⟨_, rfl⟩
  rw [← hW1] at hB1
  have hcl : ∀ ty, (Builtin.clear_ #[82] ty #[.slice (some ⟨g, (n - 1) * 2, none⟩) (n - (n - 1)) (cap - (n - 1))]).run Try.prog W1 = .ok (.tuple #[]) (W1.setCells g ((n - 1) * 2) [.int .i64 0, .int .i64 0]) :=
    fun ty => by
      rw [← hzc, show n - (n - 1) = 1 by omega]
      exact run_clear_k W1 _ _ ty (.agg #[.int .i64 0, .int .i64 0]) Try.underlying82 Try.zeroValue81 (by decide) (by intro v hv; simp [Value.cells] at hv; rcases hv with rfl | rfl <;> rfl) g ((n - 1) * 2) 1 (cap - (n - 1)) (by decide) (fun j hj => hB1.there (by simp [Value.cells] at hj; omega)) (fun j hj => hB1.soft _)
  have hW : Hid (W1 = w.drew.setCells g (0 + i * 2) news) := by show _ = _; rw [Nat.zero_add]; exact hW1
  have HE : Hid (W1 = w.drew.setCells g (i * 2) news) := hW1
  have hin : i ≤ cap := by omega
  have hjc : j ≤ cap := by omega
  have hin2 : j ≤ n := by omega
  have hij : i ≤ j := by omega
  have hne : ¬ i = j := by omega
  have hsum : i + (n - j) = n - 1 := by omega
  have HJ : Hid (j = i + 1) := hj
  rw [← hnews]
  clear hW1 hB1 hget hnews hlen hlc hnk h h1 hj hzc
  go_enter Try.func100, Try.ntmps100
  go_wp2_with fail
  go_region_law (refine step_append_room rfl (.tmp 22) (.tmp 25) 82 rfl 81 i0 2 Try.underlying82 hi0 hzs g 0 i cap (by simp [Act.eval, Act.put]) A (n - j) (cap - j) news (by simp [Act.eval, Act.put]) s1.out hsrc.out s2.out (by omega) s3.out ?_; rw [← hW.out])
  go_wp2
  go_ret
  exact ⟨rfl, by rw [HE.out]⟩
/-- slices.Delete of one element of a row of one's own. -/
theorem delE_any {w : World} {base : Nat} {v : Value} {n : Nat} {xs : List Value} (h : w.ownsRow base 81 2 v n xs) (h1 : ∀ u ∈ xs, u.oneCell' = true) (i j : Nat) (hj : j = i + 1) (hi : i < n) :
    Calls Try.prog 100 #[v, .int .i64 i, .int .i64 j] w fun e w' => ∃ v', e = .returned v' ∧ v'.ownBlock = v.ownBlock ∧ w'.ownsRow base 81 2 v' (n - 1) (xs.take (i * 2) ++ xs.drop ((i + 1) * 2)) ∧ Fr w w' (fun k => v.ownBlock = some k) := by
  obtain ⟨g, cap, cur, rfl, hn, hB, rfl⟩ := own_blk h (by omega)
  have hnk : n * 2 ≤ cap * 2 := Nat.mul_le_mul_right _ hn
  refine (delE_blk hB n i j h1 hj hi hn).mono ?_
  rintro e w' ⟨rfl, rfl⟩
  have hl : ((cur.take (n * 2)).drop ((i + 1) * 2)).length = (n - (i + 1)) * 2 := by rw [List.length_drop, List.length_take, hB.size]; omega
  have hB2 := (hB.drew.set (i * 2) _ (by rw [hl]; omega)).set ((n - 1) * 2) [.int .i64 0, .int .i64 0] (by simp only [List.length_cons, List.length_nil]; omega)
  refine ⟨_, rfl, rfl, ?_, ?_⟩
  · have := hB2.own (n := n - 1) (by omega)
    rw [del_list (k := 2) hi (by rw [hB.size]; exact hnk) rfl] at this
    exact this
  · exact ((Fr.drew w _).trans (fr_setCells g (S := fun k => Value.ownBlock (.slice (some ⟨g, 0, none⟩) n cap) = some k) rfl _ _ _) (fun _ _ h => h)).trans (fr_setCells g (S := fun k => Value.ownBlock (.slice (some ⟨g, 0, none⟩) n cap) = some k) rfl _ _ _) (fun _ _ h => h)

theorem mInfoV : (Try.prog.info? 84).map (fun i => (i.zero, i.size, i.bytes)) = some (some (.agg #[.int .i64 0, .int .i64 0, .slice none 0 0]), 3, 40) := by kernel_rfl
set_option maxHeartbeats 4000000 in
set_option maxRecDepth 100000 in
theorem delV_blk {w : World} {base g cap : Nat} {cur : List Value} (h : Blk w base 84 3 g cap cur) (n i j : Nat) (h1 : ∀ u ∈ cur.take (n * 3), u.oneCell' = true) (hj : j = i + 1) (hi : i < n) (hn : n ≤ cap) :
    Calls Try.prog 73 #[.slice (some ⟨g, 0, none⟩) n cap, .int .i64 i, .int .i64 j] w fun e w' => e = .returned (.slice (some ⟨g, 0, none⟩) (n - 1) cap) ∧ w' = (w.drew.setCells g (i * 3) ((cur.take (n * 3)).drop ((i + 1) * 3))).setCells g ((n - 1) * 3) [.int .i64 0, .int .i64 0, .slice none 0 0] := by
  obtain ⟨i0, hi0, hz0, hzs, hzb⟩ := info_parts mInfoV
  have hzc : (Builtin.zeroCells (.agg #[.int .i64 0, .int .i64 0, .slice none 0 0] : Value).cells 1).toList = [.int .i64 0, .int .i64 0, .slice none 0 0] := by kernel_rfl
  have hmax : cap ≤ 9223372036854775807 := by have := h.max; unfold maxLen at this; omega
  have hnk : n * 3 ≤ cap * 3 := Nat.mul_le_mul_right _ hn
  have hlc : cur.length = cap * 3 := h.size
  obtain ⟨news, hnews⟩ : ∃ news, news = (cur.take (n * 3)).drop ((i + 1) * 3) := ⟨_, rfl⟩
  have hlen : news.length = (n - (i + 1)) * 3 := by rw [hnews, List.length_drop, List.length_take]; omega
  have hget : ∀ t u, news[t]? = some u → cur[(i + 1) * 3 + t]? = some u := by
    intro t u hu
    rw [hnews, List.getElem?_drop, List.getElem?_take] at hu
    split at hu
    · exact hu
    · cases hu
  obtain ⟨A, hA, hsrc⟩ : ∃ A : Addr, (if cap = j then some (⟨g, 0, none⟩ : Addr) else some ⟨g, j * 3, none⟩) = some A ∧ Hid (∀ t u, news[t]? = some u → w.drew.cell? (A.add t) = some u) := by
    by_cases hc : cap = j
    · refine ⟨⟨g, 0, none⟩, by simp [hc], fun t u hu => ?_⟩
      have h0 : news.length = 0 := by rw [hlen]; omega
      rw [List.length_eq_zero_iff.1 h0] at hu
      simp at hu
    · refine ⟨⟨g, j * 3, none⟩, by simp [hc], fun t u hu => ?_⟩
      rw [Addr.add_lit, hj]
      exact (h.cell _).trans (hget t u hu)
  have s1 : Hid (news.length = (n - j) * 3) := by show _ = _; rw [hj]; exact hlen
  have s2 : Hid (∀ u ∈ news, u.oneCell' = true) := by
    intro u hu
    rw [hnews] at hu
    exact h1 u (List.mem_of_mem_drop hu)
  have s3 : Hid (∀ t, t < news.length → (w.drew.cell? ⟨g, 0 + i * 3 + t, none⟩).isSome = true ∧ w.drew.frozen? ⟨g, 0 + i * 3 + t, none⟩ = false) := by
    intro t ht
    rw [hlen] at ht
    exact ⟨h.there (by omega), h.soft _⟩
  have hB1 := h.drew.set (i * 3) news (by rw [hlen]; omega)
  obtain ⟨W1, hW1⟩ : ∃ W1, W1 = w.drew.setCells g (i * 3) news := ⟨_, rfl⟩
  rw [← hW1] at hB1
  have hcl : ∀ ty, (Builtin.clear_ #[22] ty #[.slice (some ⟨g, (n - 1) * 3, none⟩) (n - (n - 1)) (cap - (n - 1))]).run Try.prog W1 = .ok (.tuple #[]) (W1.setCells g ((n - 1) * 3) [.int .i64 0, .int .i64 0, .slice none 0 0]) :=
    fun ty => by
      rw [← hzc, show n - (n - 1) = 1 by omega]
      exact run_clear_k W1 _ _ ty (.agg #[.int .i64 0, .int .i64 0, .slice none 0 0]) Try.underlying22 Try.zeroValue84 (by decide) (by intro v hv; simp [Value.cells] at hv; rcases hv with rfl | rfl | rfl <;> rfl) g ((n - 1) * 3) 1 (cap - (n - 1)) (by decide) (fun j hj => hB1.there (by simp [Value.cells] at hj; omega)) (fun j hj => hB1.soft _)
  have hW : Hid (W1 = w.drew.setCells g (0 + i * 3) news) := by show _ = _; rw [Nat.zero_add]; exact hW1
  have HE : Hid (W1 = w.drew.setCells g (i * 3) news) := hW1
  have hin : i ≤ cap := by omega
  have hjc : j ≤ cap := by omega
  have hin2 : j ≤ n := by omega
  have hij : i ≤ j := by omega
  have hne : ¬ i = j := by omega
  have hsum : i + (n - j) = n - 1 := by omega
  have HJ : Hid (j = i + 1) := hj
  rw [← hnews]
  clear hW1 hB1 hget hnews hlen hlc hnk h h1 hj hzc
  go_enter Try.func73, Try.ntmps73
  go_wp2_with fail
  go_region_law (refine step_append_room rfl (.tmp 22) (.tmp 25) 22 rfl 84 i0 3 Try.underlying22 hi0 hzs g 0 i cap (by simp [Act.eval, Act.put]) A (n - j) (cap - j) news (by simp [Act.eval, Act.put]) s1.out hsrc.out s2.out (by omega) s3.out ?_; rw [← hW.out])
  go_wp2
  go_ret
  exact ⟨rfl, by rw [HE.out]⟩
/-- slices.Delete of one element of a row of one's own. -/
theorem delV_any {w : World} {base : Nat} {v : Value} {n : Nat} {xs : List Value} (h : w.ownsRow base 84 3 v n xs) (h1 : ∀ u ∈ xs, u.oneCell' = true) (i j : Nat) (hj : j = i + 1) (hi : i < n) :
    Calls Try.prog 73 #[v, .int .i64 i, .int .i64 j] w fun e w' => ∃ v', e = .returned v' ∧ v'.ownBlock = v.ownBlock ∧ w'.ownsRow base 84 3 v' (n - 1) (xs.take (i * 3) ++ xs.drop ((i + 1) * 3)) ∧ Fr w w' (fun k => v.ownBlock = some k) := by
  obtain ⟨g, cap, cur, rfl, hn, hB, rfl⟩ := own_blk h (by omega)
  have hnk : n * 3 ≤ cap * 3 := Nat.mul_le_mul_right _ hn
  refine (delV_blk hB n i j h1 hj hi hn).mono ?_
  rintro e w' ⟨rfl, rfl⟩
  have hl : ((cur.take (n * 3)).drop ((i + 1) * 3)).length = (n - (i + 1)) * 3 := by rw [List.length_drop, List.length_take, hB.size]; omega
  have hB2 := (hB.drew.set (i * 3) _ (by rw [hl]; omega)).set ((n - 1) * 3) [.int .i64 0, .int .i64 0, .slice none 0 0] (by simp only [List.length_cons, List.length_nil]; omega)
  refine ⟨_, rfl, rfl, ?_, ?_⟩
  · have := hB2.own (n := n - 1) (by omega)
    rw [del_list (k := 3) hi (by rw [hB.size]; exact hnk) rfl] at this
    exact this
  · exact ((Fr.drew w _).trans (fr_setCells g (S := fun k => Value.ownBlock (.slice (some ⟨g, 0, none⟩) n cap) = some k) rfl _ _ _) (fun _ _ h => h)).trans (fr_setCells g (S := fun k => Value.ownBlock (.slice (some ⟨g, 0, none⟩) n cap) = some k) rfl _ _ _) (fun _ _ h => h)
end Go.Proofs.Ythnhmhjcpdomcaa
end
