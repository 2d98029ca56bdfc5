/- What Check returns. -/
import Derived.Test.YtmgjlamglhpnaaaGreatGrThereM
import Derived.Test.YtmgjlamglhpnaaaGreatGrWalk2M
import Derived.Test.YtmgjlamglhpnaaaGreatGrBytesM
import Derived.Deep.RegionHeld
import Derived.Test.YtmgjlamglhpnaaaGreatReadSpecM
namespace Go.Proofs.YtmgjlamglhpnaaaGreat
set_option maxRecDepth 100000
open Go.RowKit
theorem wlt {w : World} {P : Nat → Prop} {ao : Option Addr} {G : List Vx} (h : VxAt w P ao G) : VxAt w (fun k => k < w.heap.size) ao G := h.mono (fun _ hk _ => hk)
theorem one_new (w : World) (o : Obj) : Below w.heap.size w (w.alloc o) := (Below.refl _ _).alloc (Nat.le_refl _) _
theorem alloc_then {w w1 : World} {o : Obj} (h : Below (w.alloc o).heap.size (w.alloc o) w1) : Below w.heap.size w w1 := (one_new w o).trans (h.mono (by simp))
set_option maxHeartbeats 2000000 in
theorem check_any {w : World} {P : Nat → Prop} {ao : Option Addr} {G : List Vx} (cap : Nat) (h : VxAt w P ao G) (hl : G.length ≤ 9223372036854775807) (hok : ∀ v ∈ G, v.ok) :
  Calls Tryz.prog 44 #[.agg #[.slice ao G.length cap]] w fun r w' => r = .returned (.int .i64 (chk G)) ∧ Below w.heap.size w w' := by
 have hN := fun o => (wlt h).new (one_new w o)
 by_cases hlen : 256 < G.length
 ·have HC : Hid (chk G = 30) := if_pos (Or.inl hlen)
  go_enter Tryz.func44, Tryz.ntmps44
  go_wp2
  go_ret
  exact ⟨by rw [HC.out]; rfl, one_new _ _⟩
 ·have hR := fun o => rising_v cap (hN o) hl
  cases hrb : riseB (ids G) with
  | false =>
   have HC : Hid (chk G = 30) := if_pos (Or.inr hrb)
   rw [hrb] at hR
   go_enter Tryz.func44, Tryz.ntmps44
   go_wp2_with (go_at_call 71; refine (hR _).mono ?_; rintro r w1 ⟨rfl, hb1⟩)
   go_ret
   exact ⟨by rw [HC.out]; rfl, alloc_then hb1⟩
  | true =>
   rw [hrb] at hR
   have hrise := (riseB_iff _).1 hrb
   have H1 : Hid (∀ o w1, Below (w.alloc o).heap.size (w.alloc o) w1 → VxAt w1 (fun k => k < w.heap.size) ao G) := fun o w1 hb => ((hN o).new hb)
   have HC : Hid (chk G = if 2048 < sumE G ∨ risesE G = false ∨ thereE G = false then 31 else 0) := if_neg (by rw [hrb]; simp; omega)
   have HR : Hid (Rise (ids G)) := hrise
   have HO : Hid (∀ v ∈ G, v.ok) := hok
   clear hrise hok
   by_cases hs : 2048 < sumE G
   ·go_enter Tryz.func44, Tryz.ntmps44
    go_wp2_with (first
     | (go_at_call 71; refine (hR _).mono ?_; rintro r w1 ⟨rfl, hb1⟩; have c1 := (hb1.cell (p := ⟨w.heap.size, 0, none⟩) (by simp)))
     | (go_at_call 73; refine (edges_any cap (H1.out _ _ hb1) hl).mono ?_; rintro r w2 ⟨rfl, hb2⟩))
    go_ret
    exact ⟨by rw [HC.out, if_pos (Or.inl hs)]; rfl, (alloc_then hb1).trans (hb2.mono (alloc_then hb1).size)⟩
   ·have hE := fun w1 (v : VxAt w1 (fun k => k < w.heap.size) ao G) => endsrise_any cap v hl HO.out
    cases he : risesE G with
    | false =>
     simp only [he] at hE
     go_enter Tryz.func44, Tryz.ntmps44
     go_wp2_with (first
      | (go_at_call 71; refine (hR _).mono ?_; rintro r w1 ⟨rfl, hb1⟩; have c1 := (hb1.cell (p := ⟨w.heap.size, 0, none⟩) (by simp)); have z1 : w.heap.size < w1.heap.size := by have := hb1.size; simp at this; omega)
      | (go_at_call 73; refine (edges_any cap (H1.out _ _ hb1) hl).mono ?_; rintro r w2 ⟨rfl, hb2⟩; have c2 := (hb2.cell (p := ⟨w.heap.size, 0, none⟩) z1); have z2 : w.heap.size < w2.heap.size := Nat.lt_of_lt_of_le z1 hb2.size; have v2 := (H1.out _ _ hb1).new hb2)
      | (go_at_call 74; refine (hE _ v2).mono ?_; rintro r w3 ⟨rfl, hb3⟩; have c3 := (hb3.cell (p := ⟨w.heap.size, 0, none⟩) z2); have v3 := v2.new hb3))
     go_ret
     exact ⟨by rw [HC.out, if_pos (Or.inr (Or.inl he))]; rfl, ((alloc_then hb1).trans (hb2.mono (alloc_then hb1).size)).trans (hb3.mono (by have := z2; omega))⟩
    | true =>
     simp only [he] at hE
     have hT := fun w1 (v : VxAt w1 (fun k => k < w.heap.size) ao G) => there_any cap (wlt v) (by omega) HR.out HO.out
     cases ht : thereE G with
     | false =>
      simp only [ht] at hT
      go_enter Tryz.func44, Tryz.ntmps44
      go_wp2_with (first
       | (go_at_call 71; refine (hR _).mono ?_; rintro r w1 ⟨rfl, hb1⟩; have c1 := (hb1.cell (p := ⟨w.heap.size, 0, none⟩) (by simp)); have z1 : w.heap.size < w1.heap.size := by have := hb1.size; simp at this; omega)
       | (go_at_call 73; refine (edges_any cap (H1.out _ _ hb1) hl).mono ?_; rintro r w2 ⟨rfl, hb2⟩; have c2 := (hb2.cell (p := ⟨w.heap.size, 0, none⟩) z1); have z2 : w.heap.size < w2.heap.size := Nat.lt_of_lt_of_le z1 hb2.size; have v2 := (H1.out _ _ hb1).new hb2)
       | (go_at_call 74; refine (hE _ v2).mono ?_; rintro r w3 ⟨rfl, hb3⟩; have c3 := (hb3.cell (p := ⟨w.heap.size, 0, none⟩) z2); have v3 := v2.new hb3)
       | (go_at_call 75; refine (hT _ v3).mono ?_; rintro r w4 ⟨rfl, hb4⟩))
      go_ret
      exact ⟨by rw [HC.out, if_pos (Or.inr (Or.inr ht))]; rfl, (((alloc_then hb1).trans (hb2.mono (alloc_then hb1).size)).trans (hb3.mono (by have := z2; omega))).trans (hb4.mono (by have := hb3.size; omega))⟩
     | true =>
      simp only [ht] at hT
      go_enter Tryz.func44, Tryz.ntmps44
      go_wp2_with (first
       | (go_at_call 71; refine (hR _).mono ?_; rintro r w1 ⟨rfl, hb1⟩; have c1 := (hb1.cell (p := ⟨w.heap.size, 0, none⟩) (by simp)); have z1 : w.heap.size < w1.heap.size := by have := hb1.size; simp at this; omega)
       | (go_at_call 73; refine (edges_any cap (H1.out _ _ hb1) hl).mono ?_; rintro r w2 ⟨rfl, hb2⟩; have c2 := (hb2.cell (p := ⟨w.heap.size, 0, none⟩) z1); have z2 : w.heap.size < w2.heap.size := Nat.lt_of_lt_of_le z1 hb2.size; have v2 := (H1.out _ _ hb1).new hb2)
       | (go_at_call 74; refine (hE _ v2).mono ?_; rintro r w3 ⟨rfl, hb3⟩; have c3 := (hb3.cell (p := ⟨w.heap.size, 0, none⟩) z2); have v3 := v2.new hb3)
       | (go_at_call 75; refine (hT _ v3).mono ?_; rintro r w4 ⟨rfl, hb4⟩))
      go_ret
      exact ⟨by rw [HC.out, if_neg (by rw [he, ht]; simp; omega)]; rfl, (((alloc_then hb1).trans (hb2.mono (alloc_then hb1).size)).trans (hb3.mono (by have := z2; omega))).trans (hb4.mono (by have := hb3.size; omega))⟩
theorem refsigned_g (k : Int) (w : World) (h : I64 k) :
  Calls Tryz.prog 37 #[.int .i64 k] w fun e w' => e = .returned (.string (str (sgB k))) ∧ Below w.heap.size w w' := by
 obtain ⟨h1, h2⟩ := h
 unfold sgB
 obtain ⟨m, HM⟩ : ∃ m : Nat, Hid (foldN k = m) := ⟨(foldN k).toNat, (Int.toNat_of_nonneg (fold_bd k h1 h2).1).symm⟩
 have hm : m < 18446744073709551616 := by have := fold_bd k h1 h2; have := HM.out; omega
 have hF : ∀ w, Calls Tryz.prog 64 #[.int .i64 k] w fun e w' => e = .returned (.int .u64 m) ∧ w' = w := fun w => by have := reffold_any k w h1 h2; rw [HM.out] at this; exact this
 rw [show (foldN k).toNat = m by rw [HM.out]; rfl]
 go_enter Tryz.func37, Tryz.ntmps37
 go_wp2_with (first
  | (go_at_call 64; refine (hF _).mono ?_; rintro r w1 ⟨rfl, rfl⟩)
  | (go_at_call 36; refine (refnumber_any m _ hm).mono ?_; rintro r w2 ⟨rfl, hh⟩))
 go_ret
 exact ⟨rfl, hh⟩
theorem box_below {W w1 : World} {B o : Nat} {u : Value} (hb : Below W.heap.size W w1) (h : W.cell? ⟨B, o, none⟩ = some u) : w1.cell? ⟨B, o, none⟩ = some u := (hb.cell (p := ⟨B, o, none⟩) (lt_cell h)).trans h
theorem run_add_str (a b : ByteArray) (h : a.size + b.size ≤ 9223372036854775807) (w : World) : (binOp .add 9 (.string a) (.string b)).run Tryz.prog w = .ok (.string (a ++ b)) w := by
 have hn : ¬ ((a.size + b.size : Nat) : Int) > IntKind.i64.max := by show ¬ ((a.size + b.size : Nat) : Int) > 9223372036854775807; omega
 simp only [binOp, Op.stringOp, if_neg hn]
 rfl
set_option maxHeartbeats 1600000 in
theorem vertexbytes_any {w : World} {P : Nat → Prop} {eo : Option Addr} (x : Vx) (ec : Nat) (hE : EdAt w P eo x.es) (hok : x.ok) (hl : x.es.length ≤ 2048) :
  Calls Tryz.prog 63 #[.agg #[.int .i64 x.id, .int .i64 x.val, .slice eo x.es.length ec]] w fun r w' => r = .returned (.string (str (vxB x))) ∧ Below w.heap.size w w' := by
 have H1 := sgB_len hok.id
 have H2 := sgB_len hok.val
 have H3 := numB_len10 (n := x.es.length) (by omega)
 have s1 : (str (sgB x.id)).size ≤ 10 := H1
 have s2 : (str (sgB x.val)).size ≤ 10 := H2
 have s3 : (str (numB x.es.length)).size ≤ 10 := H3
 have HI : Hid (I64 x.id ∧ I64 x.val) := ⟨hok.id, hok.val⟩
 have hN := fun W => refnumber_any x.es.length W (by omega)
 have hn1 := run_add_str (str (sgB x.id)) (str (sgB x.val)) (by omega)
 have hn2 := run_add_str (str (sgB x.id) ++ str (sgB x.val)) (str (numB x.es.length)) (by rw [ByteArray.size_append]; omega)
 have hcv : IntKind.u64.wrap (x.es.length : Int) = (x.es.length : Int) := by rw [IntKind.wrap_u64]; omega
 have HE : Hid (EdAt w P eo x.es) := hE
 have HO : Hid (∀ e ∈ x.es, e.ok) := hok.es
 clear hE hok
 go_enter Tryz.func63, Tryz.ntmps63
 go_wp2
 obtain ⟨W0, hW0⟩ : ∃ W0, w.alloc (.cells #[.int .i64 x.id, .int .i64 x.val, .slice eo x.es.length ec] 105) = W0 := ⟨_, rfl⟩
 obtain ⟨k0, k1, k2⟩ := box3 (show W0.heap[w.heap.size]? = _ by rw [← hW0]; exact heap_alloc_new _ _)
 have hb0 : Below w.heap.size w W0 := by rw [← hW0]; exact one_new _ _
 rw [hW0]
 go_region_held (fun w' => w'.cell? ⟨w.heap.size, 0, none⟩ = some (.int .i64 x.id) ∧ w'.cell? ⟨w.heap.size, 1, none⟩ = some (.int .i64 x.val) ∧ w'.cell? ⟨w.heap.size, 2, none⟩ = some (.slice eo x.es.length ec)) (first | exact hS1 | go_keep)
  (first
   | (go_at_call 37; refine (refsigned_g _ _ (by first | exact HI.out.1 | exact HI.out.2)).mono ?_; rintro r w1 ⟨rfl, hb1⟩; first | (have hB2 := hB1.trans (hb1.mono hB1.size); have hS1 := (⟨box_below hb1 hS1.1, box_below hb1 hS1.2.1, box_below hb1 hS1.2.2⟩ : w1.cell? ⟨w.heap.size, 0, none⟩ = some (.int .i64 x.id) ∧ w1.cell? ⟨w.heap.size, 1, none⟩ = some (.int .i64 x.val) ∧ w1.cell? ⟨w.heap.size, 2, none⟩ = some (.slice eo x.es.length ec))) | (have hB1 := hb0.trans ((below_c hb1).mono hb0.size); have hS1 := (⟨box_below hb1 k0, box_below hb1 k1, box_below hb1 k2⟩ : w1.cell? ⟨w.heap.size, 0, none⟩ = some (.int .i64 x.id) ∧ w1.cell? ⟨w.heap.size, 1, none⟩ = some (.int .i64 x.val) ∧ w1.cell? ⟨w.heap.size, 2, none⟩ = some (.slice eo x.es.length ec))))
   | (go_at_call 36; refine (hN _).mono ?_; rintro r w3 ⟨rfl, hb3⟩; have hB3 := hB2.trans (hb3.mono hB2.size); have hS1 := (⟨box_below hb3 hS1.1, box_below hb3 hS1.2.1, box_below hb3 hS1.2.2⟩ : w3.cell? ⟨w.heap.size, 0, none⟩ = some (.int .i64 x.id) ∧ w3.cell? ⟨w.heap.size, 1, none⟩ = some (.int .i64 x.val) ∧ w3.cell? ⟨w.heap.size, 2, none⟩ = some (.slice eo x.es.length ec))))
 all_goals
  clear hS1 k0 k1
  have HB3 : Hid (Below w.heap.size w w3) := hB3
  have q2 := (‹_ ∧ _ ∧ w3.cell? ⟨w.heap.size, 2, none⟩ = some (.slice eo x.es.length ec)›).2.2
  have HQ : Hid _ := q2
  clear q2 hN hcv hn1 hn2 s1 s2 s3 k2 hb0 HI
  go_wp2
  go_loopw [3, 4] (fun u i wr => ∃ (k : Nat), k ≤ x.es.length ∧ i = .int .i64 k ∧ u = .string (str (sgB x.id ++ sgB x.val ++ numB x.es.length ++ (x.es.take k).flatMap edB)) ∧ wr.cell? ⟨w.heap.size, 2, none⟩ = some (.slice eo x.es.length ec) ∧ Below w.heap.size w wr) (fun _ i _ => x.es.length - (intOf i).toNat)
  case atStart => exact ⟨0, Nat.zero_le _, rfl, by rw [str_append, str_append]; simp, HQ.out, HB3.out⟩
  case round =>
   obtain ⟨k, hk, rfl, rfl, hc2, hbr⟩ := hrel
   by_cases hlt : k < x.es.length
   ·obtain ⟨b, off, rfl, hP, hc⟩ := HE.out (by omega)
    have f0 := (hbr.cell (p := ⟨b, off + k * 2, none⟩) (lt_cell (hc k hlt).1)).trans (hc k hlt).1
    have f1 := (hbr.cell (p := ⟨b, off + k * 2 + 1, none⟩) (lt_cell (hc k hlt).1)).trans (hc k hlt).2
    have HS : Hid _ := eds_snoc x.es k hlt
    have HZ : Hid (x.es[k].ok) := HO.out _ (List.getElem_mem hlt)
    have z1 : (str (sgB x.es[k].t)).size ≤ 10 := sgB_len HZ.out.t
    have z2 : (str (sgB x.es[k].w)).size ≤ 10 := sgB_len HZ.out.w
    have z0 : (str (sgB x.id ++ sgB x.val ++ numB x.es.length ++ (x.es.take k).flatMap edB)).size ≤ 100000 := by
     have h4 := edsB_len (x.es.take k) (fun e he => HO.out e (List.mem_of_mem_take he))
     rw [List.length_take] at h4
     show (_ : List UInt8).length ≤ _
     simp only [List.length_append]
     omega
    generalize x.es[k] = z at f0 f1 HS HZ z1 z2
    generalize hA : sgB x.id ++ sgB x.val ++ numB x.es.length ++ (x.es.take k).flatMap edB = A at z0 ⊢
    have HA : Hid _ := hA
    clear hc hA
    go_wp2
    go_region_held (fun w' => w'.cell? ⟨w.heap.size, 2, none⟩ = some (.slice (some ⟨b, off, none⟩) x.es.length ec) ∧ w'.cell? ⟨b, off + k * 2, none⟩ = some (.int .i64 z.t) ∧ w'.cell? ⟨b, off + k * 2 + 1, none⟩ = some (.int .i64 z.w)) (first | exact hS1 | go_keep)
     ((go_at_call 37; refine (refsigned_g _ _ (by first | exact HZ.out.t | exact HZ.out.w)).mono ?_; rintro r w1 ⟨rfl, hb1⟩; first | (have hB2 := hB1.trans (hb1.mono hB1.size); have hS1 := (⟨box_below hb1 hS1.1, box_below hb1 hS1.2.1, box_below hb1 hS1.2.2⟩ : w1.cell? ⟨w.heap.size, 2, none⟩ = some (.slice (some ⟨b, off, none⟩) x.es.length ec) ∧ w1.cell? ⟨b, off + k * 2, none⟩ = some (.int .i64 z.t) ∧ w1.cell? ⟨b, off + k * 2 + 1, none⟩ = some (.int .i64 z.w))) | (have hB1 := hbr.trans ((below_c hb1).mono hbr.size); have hS1 := (⟨box_below hb1 hc2, box_below hb1 f0, box_below hb1 f1⟩ : w1.cell? ⟨w.heap.size, 2, none⟩ = some (.slice (some ⟨b, off, none⟩) x.es.length ec) ∧ w1.cell? ⟨b, off + k * 2, none⟩ = some (.int .i64 z.t) ∧ w1.cell? ⟨b, off + k * 2 + 1, none⟩ = some (.int .i64 z.w)))))
    all_goals
     go_wp2
     go_roundw
     case rel => exact ⟨k + 1, by omega, by go_num, by rw [HS.out, ← List.append_assoc, HA.out, show edB z = sgB z.t ++ sgB z.w from rfl, str_append, str_append], (‹w1.cell? ⟨w.heap.size, 2, none⟩ = some (.slice (some ⟨b, off, none⟩) x.es.length ec) ∧ _›).1, hB2⟩
     case measure => simp [intOf]; omega
   ·obtain rfl : k = x.es.length := by omega
    go_wp2
    go_ret
    exact ⟨by rw [List.take_length]; rfl, hbr⟩
def rdEs (s : ByteArray) : Nat → Nat → Int → List Ed × Nat × Int
 | 0, a, e => ([], a, e)
 | n + 1, a, e =>
  if (rdNum s (rdNum s a e).2.1 (rdNum s a e).2.2).2.2 = 0 then
   (⟨unfoldN (rdNum s a e).1, unfoldN (rdNum s (rdNum s a e).2.1 (rdNum s a e).2.2).1⟩ :: (rdEs s n (rdNum s (rdNum s a e).2.1 (rdNum s a e).2.2).2.1 0).1, (rdEs s n (rdNum s (rdNum s a e).2.1 (rdNum s a e).2.2).2.1 0).2)
  else ([], (rdNum s (rdNum s a e).2.1 (rdNum s a e).2.2).2.1, (rdNum s (rdNum s a e).2.1 (rdNum s a e).2.2).2.2)
theorem rdEs_go {s : ByteArray} {n a t a1 w a2 : Nat} {e e1 : Int} (h1 : rdNum s a e = (t, a1, e1)) (h2 : rdNum s a1 e1 = (w, a2, 0)) : rdEs s (n + 1) a e = (⟨unfoldN t, unfoldN w⟩ :: (rdEs s n a2 0).1, (rdEs s n a2 0).2) := by
 simp only [rdEs, h1, h2, if_true]
theorem rdEs_bad {s : ByteArray} {n a t a1 w a2 : Nat} {e e1 e2 : Int} (h1 : rdNum s a e = (t, a1, e1)) (h2 : rdNum s a1 e1 = (w, a2, e2)) (h : e2 ≠ 0) : rdEs s (n + 1) a e = ([], a2, e2) := by
 simp only [rdEs, h1, h2, if_neg h]
def rdV (s : ByteArray) (a : Nat) (e : Int) : Vx × Nat × Int :=
 let p := rdNum s a e
 let q := rdNum s p.2.1 p.2.2
 let c := rdCount s q.2.1 q.2.2 2048
 (⟨unfoldN p.1, unfoldN q.1, (rdEs s c.1 c.2.1 c.2.2).1⟩, (rdEs s c.1 c.2.1 c.2.2).2)
def rdVs (s : ByteArray) : Nat → Nat → Int → List Vx × Nat × Int
 | 0, a, e => ([], a, e)
 | n + 1, a, e => if (rdV s a e).2.2 = 0 then ((rdV s a e).1 :: (rdVs s n (rdV s a e).2.1 0).1, (rdVs s n (rdV s a e).2.1 0).2) else ([], (rdV s a e).2)
def rdGs (s : ByteArray) (a : Nat) (e : Int) : List Vx × Nat × Int :=
 let c := rdCount s a e 256
 rdVs s c.1 c.2.1 c.2.2
def rdG (s : ByteArray) (a : Nat) (e : Int) : List Vx × Nat × Int :=
 let g := rdGs s a e
 if g.2.2 = 0 then (if chk g.1 = 0 then g else ([], g.2.1, chk g.1)) else ([], g.2)
theorem rdNum_to {s : ByteArray} {a n a' : Nat} {e e' : Int} (ha : a ≤ s.size) (h : rdNum s a e = (n, a', e')) : a' ≤ s.size ∧ n < 18446744073709551616 ∧ (e' = 0 → e = 0) := by
 by_cases he : e = 0
 ·subst he
  rcases three s a ha with ⟨m, k, hp, h1, h2, h3, h4⟩ | ⟨m, k, x, hp, hx⟩
  ·rw [show rdNum s a 0 = (m, a + k, 0) from rd_ok hp] at h
   simp only [Prod.mk.injEq] at h
   obtain ⟨rfl, rfl, rfl⟩ := h
   exact ⟨h2, h4, fun _ => rfl⟩
  ·rw [show rdNum s a 0 = (0, a, (x : Int)) from rd_bad hp hx] at h
   simp only [Prod.mk.injEq] at h
   obtain ⟨rfl, rfl, rfl⟩ := h
   exact ⟨ha, by decide, fun _ => rfl⟩
 ·rw [show rdNum s a e = (0, a, e) from rd_err he] at h
  simp only [Prod.mk.injEq] at h
  obtain ⟨rfl, rfl, rfl⟩ := h
  exact ⟨ha, by decide, fun h => h⟩
theorem rdCount_to {s : ByteArray} {a n a' : Nat} {e e' : Int} {most : Nat} (ha : a ≤ s.size) (h : rdCount s a e most = (n, a', e')) : a' ≤ s.size ∧ n ≤ most ∧ (e' = 0 → e = 0) ∧ (0 < n → e' = 0) := by
 by_cases he : e = 0
 ·subst he
  rcases three s a ha with ⟨m, k, hp, h1, h2, h3, h4⟩ | ⟨m, k, x, hp, hx⟩
  ·have hq : rdCount s a 0 most = if (most : Int) < 0 ∨ (most : Int) < m then (0, a, 5) else (m, a + k, 0) := rd_ok hp
   rw [hq] at h
   split at h
   ·simp only [Prod.mk.injEq] at h
    obtain ⟨rfl, rfl, rfl⟩ := h
    exact ⟨ha, by omega, fun _ => rfl, fun h => by omega⟩
   ·simp only [Prod.mk.injEq] at h
    obtain ⟨rfl, rfl, rfl⟩ := h
    exact ⟨h2, by omega, fun _ => rfl, fun _ => rfl⟩
  ·rw [show rdCount s a 0 most = (0, a, (x : Int)) from rd_bad hp hx] at h
   simp only [Prod.mk.injEq] at h
   obtain ⟨rfl, rfl, rfl⟩ := h
   exact ⟨ha, by omega, fun _ => rfl, fun h => by omega⟩
 ·rw [show rdCount s a e most = (0, a, e) from rd_err he] at h
  simp only [Prod.mk.injEq] at h
  obtain ⟨rfl, rfl, rfl⟩ := h
  exact ⟨ha, by omega, fun h => h, fun h => by omega⟩
theorem rdEs_to (s : ByteArray) : ∀ (n a : Nat) (e : Int), a ≤ s.size → (rdEs s n a e).2.1 ≤ s.size ∧ (rdEs s n a e).1.length ≤ n ∧ ∀ x ∈ (rdEs s n a e).1, x.ok := by
 intro n
 induction n with
 | zero => intro a e ha; exact ⟨ha, Nat.le_refl _, fun x hx => by cases hx⟩
 | succ n ih =>
  intro a e ha
  obtain ⟨⟨t, a1, e1⟩, h1⟩ : ∃ q, rdNum s a e = q := ⟨_, rfl⟩
  obtain ⟨⟨w, a2, e2⟩, h2⟩ : ∃ q, rdNum s a1 e1 = q := ⟨_, rfl⟩
  have g1 := rdNum_to ha h1
  have g2 := rdNum_to g1.1 h2
  by_cases hz : e2 = 0
  ·subst hz
   rw [rdEs_go h1 h2]
   have := ih a2 0 g2.1
   refine ⟨this.1, by simp; exact this.2.1, fun x hx => ?_⟩
   rcases List.mem_cons.1 hx with rfl | hx
   ·exact ⟨by unfold I64 unfoldN; dsimp only; split <;> omega, by unfold I64 unfoldN; dsimp only; split <;> omega⟩
   ·exact this.2.2 x hx
  ·rw [rdEs_bad h1 h2 hz]
   exact ⟨g2.1, Nat.zero_le _, fun x hx => by cases hx⟩
theorem rdV_to {s : ByteArray} {a : Nat} {e : Int} (ha : a ≤ s.size) : (rdV s a e).2.1 ≤ s.size ∧ (rdV s a e).1.es.length ≤ 2048 ∧ (rdV s a e).1.ok := by
 obtain ⟨⟨t, a1, e1⟩, h1⟩ : ∃ q, rdNum s a e = q := ⟨_, rfl⟩
 obtain ⟨⟨w, a2, e2⟩, h2⟩ : ∃ q, rdNum s a1 e1 = q := ⟨_, rfl⟩
 obtain ⟨⟨n, a3, e3⟩, h3⟩ : ∃ q, rdCount s a2 e2 (2048 : Nat) = q := ⟨_, rfl⟩
 have g1 := rdNum_to ha h1
 have g2 := rdNum_to g1.1 h2
 have g3 := rdCount_to g2.1 h3
 have g4 := rdEs_to s n a3 e3 g3.1
 have hq : rdV s a e = (⟨unfoldN t, unfoldN w, (rdEs s n a3 e3).1⟩, (rdEs s n a3 e3).2) := by
  unfold rdV; simp only [h1, h2]; rw [show (2048 : Int) = ((2048 : Nat) : Int) from rfl, h3]
 rw [hq]
 refine ⟨g4.1, Nat.le_trans g4.2.1 g3.2.1, ⟨?_, ?_, g4.2.2, Nat.le_trans (Nat.le_trans g4.2.1 g3.2.1) (by decide)⟩⟩
 ·have := g1.2.1; unfold I64 unfoldN; dsimp only; split <;> omega
 ·have := g2.2.1; unfold I64 unfoldN; dsimp only; split <;> omega
theorem rdVs_to (s : ByteArray) : ∀ (n a : Nat) (e : Int), a ≤ s.size → (rdVs s n a e).2.1 ≤ s.size ∧ (rdVs s n a e).1.length ≤ n ∧ ∀ x ∈ (rdVs s n a e).1, x.ok := by
 intro n
 induction n with
 | zero => intro a e ha; exact ⟨ha, Nat.le_refl _, fun x hx => by cases hx⟩
 | succ n ih =>
  intro a e ha
  have g := rdV_to (e := e) ha
  unfold rdVs
  split
  ·have := ih (rdV s a e).2.1 0 g.1
   refine ⟨this.1, by simp; exact this.2.1, fun x hx => ?_⟩
   rcases List.mem_cons.1 hx with rfl | hx
   ·exact g.2.2
   ·exact this.2.2 x hx
  ·exact ⟨g.1, Nat.zero_le _, fun x hx => by cases hx⟩
end Go.Proofs.YtmgjlamglhpnaaaGreat
