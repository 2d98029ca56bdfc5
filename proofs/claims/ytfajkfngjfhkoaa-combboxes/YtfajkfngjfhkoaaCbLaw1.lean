/- What the statements of layer 5 use: awake, same, ref. -/
import Derived.Test.YtfajkfngjfhkoaaCbFor
import Derived.Laws.StructEq
import Derived.Deep.QuietTactic
namespace Go.Proofs.Ytfajkfngjfhkoaa
open Go.RowKit Go.Sort
def aw1 : Msg := ⟨2, 3, 0, 0⟩
def aw2 : Msg := ⟨1, 3, 0, 0⟩
theorem aw_sorted : sortM (toV ([] ++ [aw1, aw2]) 3) = [aw2, aw1] := by
  refine (sortM_of (l := toV ([] ++ [aw1, aw2]) 3) (m := [aw2, aw1]) ?_ ?_).symm
  · show [aw2, aw1].Perm [aw1, aw2]
    exact List.Perm.swap _ _ _
  · rw [List.pairwise_cons]
    refine ⟨fun x hx => ?_, by simp⟩
    simp at hx
    subst hx
    decide
theorem aw_ok : ∀ m ∈ [aw1, aw2], m.ok := by
  intro m hm
  simp at hm
  rcases hm with rfl | rfl <;> exact ⟨⟨by decide, by decide⟩, ⟨by decide, by decide⟩, ⟨by decide, by decide⟩, ⟨by decide, by decide⟩⟩
theorem aw_at {W : World} {b : Nat} {P : Nat → Prop} (h : W.heap[b]? = some (.cells #[.int .i64 2, .int .i64 3, .int .i64 0, .int .i64 0, .int .i64 1, .int .i64 3, .int .i64 0, .int .i64 0] 67 (0, 0))) (hP : P b) : MsAt W P (some ⟨b, 0, none⟩) [aw1, aw2] := by
  intro _
  refine ⟨_, _, rfl, hP, fun j hj => ?_⟩
  have hj' : j = 0 ∨ j = 1 := by simp at hj; omega
  rcases hj' with rfl | rfl <;> simp [World.cell?, h, aw1, aw2]
set_option maxRecDepth 100000 in
set_option maxHeartbeats 1000000 in
theorem awake5 (w : World) : Calls Try.prog 24 #[] w fun e w' => e = .returned (.bool true) ∧ Below w.heap.size w w' := by
  have h0 := BX.made w (S := fun k => k = w.heap.size) rfl
  have h1 : MsAt ((w.alloc (.cells #[.map none] 115)).alloc (.cells #[.int .i64 2, .int .i64 3, .int .i64 0, .int .i64 0, .int .i64 1, .int .i64 3, .int .i64 0, .int .i64 0] 67)) (fun k => ¬ k = w.heap.size) (some ⟨w.heap.size + 1, 0, none⟩) [aw1, aw2] := by
    have hn := heap_alloc_new (w.alloc (.cells #[.map none] 115)) (.cells #[.int .i64 2, .int .i64 3, .int .i64 0, .int .i64 0, .int .i64 1, .int .i64 3, .int .i64 0, .int .i64 0] 67)
    rw [World.size_alloc] at hn
    exact aw_at hn (by omega)
  have h2 := h0.new ((Below.refl _ (w.alloc (.cells #[.map none] 115))).alloc (Nat.le_refl _) (.cells #[.int .i64 2, .int .i64 3, .int .i64 0, .int .i64 0, .int .i64 1, .int .i64 3, .int .i64 0, .int .i64 0] 67))
  have hb2 : Below w.heap.size w ((w.alloc (.cells #[.map none] 115)).alloc (.cells #[.int .i64 2, .int .i64 3, .int .i64 0, .int .i64 0, .int .i64 1, .int .i64 3, .int .i64 0, .int .i64 0] 67)) := ((Below.refl _ w).alloc (Nat.le_refl _) _).alloc (by simp) _
  have H1 : Hid _ := h1
  have H2 : Hid _ := h2
  have HB2 : Hid _ := hb2
  clear h0 h1 h2 hb2
  go_enter Try.func24, Try.ntmps24
  go_wp2_with (first
    | (go_at_call 23; refine (new_box _).mono ?_; rintro e w1 ⟨rfl, rfl⟩)
    | (go_at_call 27; refine (put_box H2.out [aw1, aw2] _ 2 H1.out aw_ok (by decide) (by decide)).mono ?_; rintro e w2 ⟨rfl, hX, hf⟩; have HX : Hid _ := hX; have HF : Hid _ := hf; clear hX hf)
    | (go_at_call 33; refine (for_any HX.out (id := 3) ⟨by decide, by decide⟩ (by decide)).mono ?_; rintro e w3 ⟨v, rfl, hv⟩; rw [aw_sorted] at hv; obtain ⟨ao, c, rfl⟩ := hv.1.shape; obtain ⟨g, off, rfl, _, hc⟩ := hv.1.at_ (by decide); obtain ⟨c0, _⟩ := hc 0 (by decide); have c0' : w3.cell? ⟨g, off, none⟩ = some (.int .i64 1) := (by simpa [aw2] using c0); clear c0; have HV : Hid _ := hv; clear hv hc))
  go_ret
  refine ⟨by simp, ?_⟩
  have h3 := HB2.out.trans (HF.out.below HB2.out.size (fun k hk => by omega))
  exact h3.trans (HV.out.2.2.mono h3.size)
theorem part4 {t : TypeId} (ht : (Try.prog.info? t).map (fun i => i.size) = some 1) (ha : ∀ w, (isAgg t).run Try.prog w = .ok false w) (w : World) (a b c d : Value) : (part t #[a, b, c, d] 0).run Try.prog w = .ok a w ∧ (part t #[a, b, c, d] 1).run Try.prog w = .ok b w ∧ (part t #[a, b, c, d] 2).run Try.prog w = .ok c w ∧ (part t #[a, b, c, d] 3).run Try.prog w = .ok d w := by
  obtain ⟨i, hi, hs⟩ := Option.map_eq_some_iff.1 ht
  refine ⟨?_, ?_, ?_, ?_⟩ <;> simp [part, typeInfo, hi, hs, sizeOf, ha]
theorem m_sizeI64 : (Try.prog.info? 2).map (fun i => i.size) = some 1 := by kernel_rfl
theorem m_sizeI : (Try.prog.info? 3).map (fun i => i.size) = some 1 := by kernel_rfl
theorem m_eq64 (w : World) (a b : Int) : (Op.equalIn 9999 2 (.int .i64 a) (.int .i64 b)).run Try.prog w = .ok (a == b) w := by
  unfold Op.equalIn
  simp [run_underlying Try.underlying2]
theorem m_eqI (w : World) (a b : Int) : (Op.equalIn 9999 3 (.int .i64 a) (.int .i64 b)).run Try.prog w = .ok (a == b) w := by
  unfold Op.equalIn
  simp [run_underlying Try.underlying3]
def meq (x y : Msg) : Bool := x.f == y.f && (x.t == y.t && (x.a == y.a && x.v == y.v))
theorem meq_iff (x y : Msg) : meq x y = true ↔ x = y := by
  cases x; cases y; simp [meq]
theorem m_eqR (w : World) (x y : Msg) : (Op.equalIn 10000 66 (.agg #[.int .i64 x.f, .int .i64 x.t, .int .i64 x.a, .int .i64 x.v]) (.agg #[.int .i64 y.f, .int .i64 y.t, .int .i64 y.a, .int .i64 y.v])).run Try.prog w = .ok (meq x y) w := by
  unfold Op.equalIn meq
  simp [run_underlying Try.underlying66, (part4 m_sizeI64 Try.isAgg2 _ _ _ _ _).1, (part4 m_sizeI64 Try.isAgg2 _ _ _ _ _).2.1, (part4 m_sizeI Try.isAgg3 _ _ _ _ _).2.2.1, (part4 m_sizeI64 Try.isAgg2 _ _ _ _ _).2.2.2, m_eq64, m_eqI]
  by_cases h1 : x.f = y.f <;> by_cases h2 : x.t = y.t <;> by_cases h3 : x.a = y.a <;> by_cases h4 : x.v = y.v <;> simp [h1, h2, h3, h4]
theorem m_neqR (w : World) (x y : Msg) : (binOp .neq 66 (.agg #[.int .i64 x.f, .int .i64 x.t, .int .i64 x.a, .int .i64 x.v]) (.agg #[.int .i64 y.f, .int .i64 y.t, .int .i64 y.a, .int .i64 y.v])).run Try.prog w = .ok (.bool (!meq x y)) w := by
  simp only [binOp]
  simp [Op.equal, Op.maxDepth, m_eqR]
theorem m_guardR (w : World) (p q : Operand) (x y : Msg) : (eqGuard .neq 66 p q (.agg #[.int .i64 x.f, .int .i64 x.t, .int .i64 x.a, .int .i64 x.v]) (.agg #[.int .i64 y.f, .int .i64 y.t, .int .i64 y.a, .int .i64 y.v])).run Try.prog w = .ok () w := by
  unfold eqGuard
  simp
def sameL : List Msg → List Msg → Bool
  | [], [] => true
  | a :: l, b :: m => meq a b && sameL l m
  | _, _ => false
theorem sameL_iff : ∀ (a b : List Msg), sameL a b = true ↔ a = b
  | [], [] => by simp [sameL]
  | [], b :: m => by simp [sameL]
  | a :: l, [] => by simp [sameL]
  | a :: l, b :: m => by simp [sameL, meq_iff, sameL_iff l m]
theorem m_drewN {B : Nat} {w wr : World} (h : Below B w wr) (n : Nat) : Below B w (wr.drewN n) := by
  induction n with
  | zero => exact h
  | succ n ih => exact ih.drew
set_option maxRecDepth 100000 in
set_option maxHeartbeats 4000000 in
theorem same_msgs {w : World} {P Q : Nat → Prop} {ao bo : Option Addr} (L : List Msg) (ca cb : Nat) (hL : MsAt w P ao L) (hM : MsAt w Q bo L) (hl : L.length ≤ 9223372036854775807) :
    Calls Try.prog 32 #[.slice ao L.length ca, .slice bo L.length cb] w fun r w' => r = .returned (.bool true) ∧ Below w.heap.size w w' := by
  go_enter Try.func32, Try.ntmps32
  go_wp2
  go_loopw [5] (fun i wr => ∃ k : Nat, k ≤ L.length ∧ i = .int .i64 k ∧ Below w.heap.size w wr) (fun i _ => L.length - (intOf i).toNat)
  case atStart => exact ⟨0, Nat.zero_le _, rfl, Below.refl _ _⟩
  case round =>
    obtain ⟨k, hk, rfl, hb⟩ := hrel
    by_cases hlt : k < L.length
    · obtain ⟨b, off, rfl, hP, hc⟩ := hL (by omega)
      obtain ⟨b', off', rfl, hP', hc'⟩ := hM (by omega)
      obtain ⟨c0, c1, c2, c3⟩ := hc k hlt
      obtain ⟨e0, e1, e2, e3⟩ := hc' k hlt
      have d0 := (hb.cell (p := ⟨b, off + k * 4, none⟩) (lt_cell c0)).trans c0
      have d1 := (hb.cell (p := ⟨b, off + k * 4 + 1, none⟩) (lt_cell c0)).trans c1
      have d2 := (hb.cell (p := ⟨b, off + k * 4 + 2, none⟩) (lt_cell c0)).trans c2
      have d3 := (hb.cell (p := ⟨b, off + k * 4 + 3, none⟩) (lt_cell c0)).trans c3
      have f0 := (hb.cell (p := ⟨b', off' + k * 4, none⟩) (lt_cell e0)).trans e0
      have f1 := (hb.cell (p := ⟨b', off' + k * 4 + 1, none⟩) (lt_cell e0)).trans e1
      have f2 := (hb.cell (p := ⟨b', off' + k * 4 + 2, none⟩) (lt_cell e0)).trans e2
      have f3 := (hb.cell (p := ⟨b', off' + k * 4 + 3, none⟩) (lt_cell e0)).trans e3
      clear hc hc' c0 c1 c2 c3 e0 e1 e2 e3
      generalize L[k] = y at d0 d1 d2 d3 f0 f1 f2 f3
      have hq1 := fun w p q => m_guardR w p q y y
      have hq2 := fun w => (m_neqR w y y).trans (by rw [(meq_iff y y).2 rfl])
      go_wp2
      go_quiet (fail)
      go_wp2
      go_roundw
      case rel => exact ⟨k + 1, by omega, by go_num, m_drewN hb _⟩
      case measure => simp [intOf]; omega
    · obtain rfl : k = L.length := by omega
      go_wp2
      go_ret
      exact ⟨rfl, hb⟩
end Go.Proofs.Ytfajkfngjfhkoaa
