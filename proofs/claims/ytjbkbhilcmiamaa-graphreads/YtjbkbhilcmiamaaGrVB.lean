/- What the document's VertexBytes and Bytes return. -/
import Derived.Test.YtjbkbhilcmiamaaGrBytes
import Derived.Test.YtjbkbhilcmiamaaGrCheck
import Derived.Deep.RegionHeld
namespace Go.Proofs.Ytjbkbhilcmiamaa
open Go.RowKit
theorem refsigned_g (k : Int) (w : World) (h : I64 k) :
    Calls Try.prog 17 #[.int .i64 k] w fun e w' => e = .returned (.string (str (sgB k))) ∧ Below w.heap.size w w' := by
  obtain ⟨h1, h2⟩ := h
  unfold sgB
  obtain ⟨m, HM⟩ : ∃ m : Nat, Hid (foldN k = m) := ⟨(foldN k).toNat, (Int.toNat_of_nonneg (fold_bd k h1 h2).1).symm⟩
  have hm : m < 18446744073709551616 := by have := fold_bd k h1 h2; have := HM.out; omega
  have hF : ∀ w, Calls Try.prog 42 #[.int .i64 k] w fun e w' => e = .returned (.int .u64 m) ∧ w' = w := fun w => by have := reffold_any k w h1 h2; rw [HM.out] at this; exact this
  rw [show (foldN k).toNat = m by rw [HM.out]; rfl]
  go_enter Try.func17, Try.ntmps17
  go_wp2_with (first
    | (go_at_call 42; refine (hF _).mono ?_; rintro r w1 ⟨rfl, rfl⟩)
    | (go_at_call 41; refine (refnumber_any m _ hm).mono ?_; rintro r w2 ⟨rfl, hh⟩))
  go_ret
  exact ⟨rfl, hh⟩
theorem box_below {W w1 : World} {B o : Nat} {u : Value} (hb : Below W.heap.size W w1) (h : W.cell? ⟨B, o, none⟩ = some u) : w1.cell? ⟨B, o, none⟩ = some u := (hb.cell (p := ⟨B, o, none⟩) (lt_cell h)).trans h
theorem run_add_str (a b : ByteArray) (h : a.size + b.size ≤ 9223372036854775807) (w : World) : (binOp .add 9 (.string a) (.string b)).run Try.prog w = .ok (.string (a ++ b)) w := by
  have hn : ¬ ((a.size + b.size : Nat) : Int) > IntKind.i64.max := by show ¬ ((a.size + b.size : Nat) : Int) > 9223372036854775807; omega
  simp only [binOp, Op.stringOp, if_neg hn]
  rfl

set_option maxRecDepth 100000 in
set_option maxHeartbeats 1600000 in
theorem vertexbytes_any {w : World} {P : Nat → Prop} {eo : Option Addr} (x : Vx) (ec : Nat) (hE : EdAt w P eo x.es) (hok : x.ok) (hl : x.es.length ≤ 2048) :
    Calls Try.prog 54 #[.agg #[.int .i64 x.id, .int .i64 x.val, .slice eo x.es.length ec]] w fun r w' => r = .returned (.string (str (vxB x))) ∧ Below w.heap.size w w' := by
  have H1 := sgB_len hok.id
  have H2 := sgB_len hok.val
  have H3 := numB_len10 (n := x.es.length) (by omega)
  have s1 : (str (sgB x.id)).size ≤ 10 := H1
  have s2 : (str (sgB x.val)).size ≤ 10 := H2
  have s3 : (str (numB x.es.length)).size ≤ 10 := H3
  have HI : Hid (I64 x.id ∧ I64 x.val) := ⟨hok.id, hok.val⟩
  have hN := fun W => refnumber_any x.es.length W (by omega)
  have hn1 := run_add_str (str (sgB x.id)) (str (sgB x.val)) (by omega)
  have hn2 := run_add_str (str (sgB x.id) ++ str (sgB x.val)) (str (numB x.es.length)) (by rw [ByteArray.size_append]; omega)
  have hcv : IntKind.u64.wrap (x.es.length : Int) = (x.es.length : Int) := by rw [IntKind.wrap_u64]; omega
  have HE : Hid (EdAt w P eo x.es) := hE
  have HO : Hid (∀ e ∈ x.es, e.ok) := hok.es
  clear hE hok
  go_enter Try.func54, Try.ntmps54
  go_wp2
  obtain ⟨W0, hW0⟩ : ∃ W0, w.alloc (.cells #[.int .i64 x.id, .int .i64 x.val, .slice eo x.es.length ec] 115) = W0 := ⟨_, rfl⟩
  obtain ⟨k0, k1, k2⟩ := box3 (show W0.heap[w.heap.size]? = _ by rw [← hW0]; exact heap_alloc_new _ _)
  have hb0 : Below w.heap.size w W0 := by rw [← hW0]; exact one_new _ _
  rw [hW0]
  go_region_held (fun w' => w'.cell? ⟨w.heap.size, 0, none⟩ = some (.int .i64 x.id) ∧ w'.cell? ⟨w.heap.size, 1, none⟩ = some (.int .i64 x.val) ∧ w'.cell? ⟨w.heap.size, 2, none⟩ = some (.slice eo x.es.length ec)) (first | exact hS1 | go_keep)
    (first
      | (go_at_call 17; refine (refsigned_g _ _ (by first | exact HI.out.1 | exact HI.out.2)).mono ?_; rintro r w1 ⟨rfl, hb1⟩; first | (have hB2 := hB1.trans (hb1.mono hB1.size); have hS1 := (⟨box_below hb1 hS1.1, box_below hb1 hS1.2.1, box_below hb1 hS1.2.2⟩ : w1.cell? ⟨w.heap.size, 0, none⟩ = some (.int .i64 x.id) ∧ w1.cell? ⟨w.heap.size, 1, none⟩ = some (.int .i64 x.val) ∧ w1.cell? ⟨w.heap.size, 2, none⟩ = some (.slice eo x.es.length ec))) | (have hB1 := hb0.trans ((below_c hb1).mono hb0.size); have hS1 := (⟨box_below hb1 k0, box_below hb1 k1, box_below hb1 k2⟩ : w1.cell? ⟨w.heap.size, 0, none⟩ = some (.int .i64 x.id) ∧ w1.cell? ⟨w.heap.size, 1, none⟩ = some (.int .i64 x.val) ∧ w1.cell? ⟨w.heap.size, 2, none⟩ = some (.slice eo x.es.length ec))))
      | (go_at_call 41; refine (hN _).mono ?_; rintro r w3 ⟨rfl, hb3⟩; have hB3 := hB2.trans (hb3.mono hB2.size); have hS1 := (⟨box_below hb3 hS1.1, box_below hb3 hS1.2.1, box_below hb3 hS1.2.2⟩ : w3.cell? ⟨w.heap.size, 0, none⟩ = some (.int .i64 x.id) ∧ w3.cell? ⟨w.heap.size, 1, none⟩ = some (.int .i64 x.val) ∧ w3.cell? ⟨w.heap.size, 2, none⟩ = some (.slice eo x.es.length ec))))
  all_goals
    clear hS1 k0 k1
    have HB3 : Hid (Below w.heap.size w w3) := hB3
    have q2 := (‹_ ∧ _ ∧ w3.cell? ⟨w.heap.size, 2, none⟩ = some (.slice eo x.es.length ec)›).2.2
    have HQ : Hid _ := q2
    clear q2 hN hcv hn1 hn2 s1 s2 s3 k2 hb0 HI
    go_wp2
    go_loopw [3, 4] (fun u i wr => ∃ (k : Nat), k ≤ x.es.length ∧ i = .int .i64 k ∧ u = .string (str (sgB x.id ++ sgB x.val ++ numB x.es.length ++ (x.es.take k).flatMap edB)) ∧ wr.cell? ⟨w.heap.size, 2, none⟩ = some (.slice eo x.es.length ec) ∧ Below w.heap.size w wr) (fun _ i _ => x.es.length - (intOf i).toNat)
    case atStart => exact ⟨0, Nat.zero_le _, rfl, by rw [str_append, str_append]; simp, HQ.out, HB3.out⟩
    case round =>
      obtain ⟨k, hk, rfl, rfl, hc2, hbr⟩ := hrel
      by_cases hlt : k < x.es.length
      · obtain ⟨b, off, rfl, hP, hc⟩ := HE.out (by omega)
        have f0 := (hbr.cell (p := ⟨b, off + k * 2, none⟩) (lt_cell (hc k hlt).1)).trans (hc k hlt).1
        have f1 := (hbr.cell (p := ⟨b, off + k * 2 + 1, none⟩) (lt_cell (hc k hlt).1)).trans (hc k hlt).2
        have HS : Hid _ := eds_snoc x.es k hlt
        have HZ : Hid (x.es[k].ok) := HO.out _ (List.getElem_mem hlt)
        have z1 : (str (sgB x.es[k].t)).size ≤ 10 := sgB_len HZ.out.t
        have z2 : (str (sgB x.es[k].w)).size ≤ 10 := sgB_len HZ.out.w
        have z0 : (str (sgB x.id ++ sgB x.val ++ numB x.es.length ++ (x.es.take k).flatMap edB)).size ≤ 100000 := by
          have h4 := edsB_len (x.es.take k) (fun e he => HO.out e (List.mem_of_mem_take he))
          rw [List.length_take] at h4
          show (_ : List UInt8).length ≤ _
          simp only [List.length_append]
          omega
        generalize x.es[k] = z at f0 f1 HS HZ z1 z2
        generalize hA : sgB x.id ++ sgB x.val ++ numB x.es.length ++ (x.es.take k).flatMap edB = A at z0 ⊢
        have HA : Hid _ := hA
        clear hc hA
        go_wp2
        go_region_held (fun w' => w'.cell? ⟨w.heap.size, 2, none⟩ = some (.slice (some ⟨b, off, none⟩) x.es.length ec) ∧ w'.cell? ⟨b, off + k * 2, none⟩ = some (.int .i64 z.t) ∧ w'.cell? ⟨b, off + k * 2 + 1, none⟩ = some (.int .i64 z.w)) (first | exact hS1 | go_keep)
          ((go_at_call 17; refine (refsigned_g _ _ (by first | exact HZ.out.t | exact HZ.out.w)).mono ?_; rintro r w1 ⟨rfl, hb1⟩; first | (have hB2 := hB1.trans (hb1.mono hB1.size); have hS1 := (⟨box_below hb1 hS1.1, box_below hb1 hS1.2.1, box_below hb1 hS1.2.2⟩ : w1.cell? ⟨w.heap.size, 2, none⟩ = some (.slice (some ⟨b, off, none⟩) x.es.length ec) ∧ w1.cell? ⟨b, off + k * 2, none⟩ = some (.int .i64 z.t) ∧ w1.cell? ⟨b, off + k * 2 + 1, none⟩ = some (.int .i64 z.w))) | (have hB1 := hbr.trans ((below_c hb1).mono hbr.size); have hS1 := (⟨box_below hb1 hc2, box_below hb1 f0, box_below hb1 f1⟩ : w1.cell? ⟨w.heap.size, 2, none⟩ = some (.slice (some ⟨b, off, none⟩) x.es.length ec) ∧ w1.cell? ⟨b, off + k * 2, none⟩ = some (.int .i64 z.t) ∧ w1.cell? ⟨b, off + k * 2 + 1, none⟩ = some (.int .i64 z.w)))))
        all_goals
          go_wp2
          go_roundw
          case rel => exact ⟨k + 1, by omega, by go_num, by rw [HS.out, ← List.append_assoc, HA.out, show edB z = sgB z.t ++ sgB z.w from rfl, str_append, str_append], (‹w1.cell? ⟨w.heap.size, 2, none⟩ = some (.slice (some ⟨b, off, none⟩) x.es.length ec) ∧ _›).1, hB2⟩
          case measure => simp [intOf]; omega
      · obtain rfl : k = x.es.length := by omega
        go_wp2
        go_ret
        exact ⟨by rw [List.take_length]; rfl, hbr⟩
end Go.Proofs.Ytjbkbhilcmiamaa
