/- A set of numbers: a map to nothing. How it lies, what is asked of it, what is put. -/
import Derived.Test.YtmgjlamglhpnaaaGreatGrDataM
import Derived.Test.YtmgjlamglhpnaaaGreatProg
import Derived.Maps.OwnSet
import Derived.WalkKit
import Derived.OwnWalk
import Derived.Below
import Derived.Test.YtmgjlamglhpnaaaGreatMuFindM
import Derived.Test.YtmgjlamglhpnaaaGreatRnTurn5M
import Derived.Test.YtmgjlamglhpnaaaGreatCbCombM
import Derived.Test.YtmgjlamglhpnaaaGreatJbMM
import Derived.Deep.Cut
import Derived.Deep.DeepCutAuto
import Derived.Test.YtmgjlamglhpnaaaGreatKnSaidM
import Derived.Test.YtmgjlamglhpnaaaGreatMuSetM
namespace Go.Proofs.YtmgjlamglhpnaaaGreat
set_option maxRecDepth 100000
open Go.RowKit Go.Maps
def SetAt (w : World) (b n : Nat) (f : Int → Bool) : Prop := ∃ D : DataW Unit, w.ownsMap Tryz.prog 2 unitElem b n D ∧ ∀ x, Maps.has D (.int .i64 x) = f x
theorem skeyOf {id : Int} (h : I64 id) : keyOf Tryz.prog 2 (.int .i64 id) = some (.int .i64 id) := keyOf_int_mk Tryz.underlying2 (WalkArith.wf_i64 ⟨h.1, h.2⟩)
theorem slaw64 : Keyed Tryz.prog 2 := int_keyed Tryz.underlying2
theorem SetAt.made (w : World) : SetAt (w.alloc (.map #[] 0)) w.heap.size 0 (fun _ => false) := ⟨_, World.ownsMap_made w _ _ _, fun _ => rfl⟩
theorem SetAt.same {w w' : World} {b n : Nat} {f : Int → Bool} (h : SetAt w b n f) (e : w'.heap[b]? = w.heap[b]?) : SetAt w' b n f := by
 obtain ⟨D, ⟨es, clock, hb, r⟩, hat⟩ := h
 exact ⟨D, ⟨es, clock, e.trans hb, r⟩, hat⟩
theorem SetAt.lt {w : World} {b n : Nat} {f : Int → Bool} (h : SetAt w b n f) : b < w.heap.size := by
 obtain ⟨D, h, _⟩ := h
 exact h.lt
theorem SetAt.new {w w' : World} {b n : Nat} {f : Int → Bool} (h : SetAt w b n f) (hb : Below w.heap.size w w') : SetAt w' b n f := h.same (hb.block b h.lt)
theorem SetAt.look {w : World} {b n : Nat} {f : Int → Bool} (h : SetAt w b n f) {x : Int} (hx : I64 x) : (Instr.lookup 198 (.map (some b)) (.int .i64 x) true).run Tryz.prog w = .ok (.tuple #[.agg #[], .bool (f x)]) w := by
 obtain ⟨D, h, hat⟩ := h
 obtain ⟨v, ps, hrun, hv⟩ := h.look_ok slaw64 Tryz.underlying198 (z := .agg #[]) (by go_simp) unitElem_mk (skeyOf hx)
 obtain ⟨rfl, _⟩ := unitElem_inv hv
 rw [hrun, hat x]
theorem skey_ne {i j : Int} (h : i ≠ j) : (Lit.int .i64 i) ≠ (Lit.int .i64 j) := by
 intro e
 cases e
 exact h rfl
theorem SetAt.put {w : World} {b n : Nat} {f : Int → Bool} (h : SetAt w b n f) (hn : n < maxLen) {x : Int} (hx : I64 x) : ∃ w', (Instr.mapUpdate 198 (.map (some b)) (.int .i64 x) (.agg #[])).run Tryz.prog w = .ok () w' ∧ SetAt w' b (n + 1) (fun y => f y || y == x) ∧ Fr w w' (fun k => k = b) := by
 obtain ⟨D, h, hat⟩ := h
 obtain ⟨w', hrun, h1, h2⟩ := h.store slaw64 Tryz.underlying198 hn (skeyOf hx) unitElem_mk
 refine ⟨w', hrun, ⟨_, h1, fun y => ?_⟩, Fr.grown h2.grown (fun k e => by cases e; rfl)⟩
 simp only
 by_cases e : y = x
 ·subst e
  rw [has_put_same h.isMap (show WideAt.IsKeyLit (.int .i64 y) from trivial)]
  simp
 ·rw [has_put_other (skey_ne e), hat]
  simp [e]
section
open Go.RowKit
theorem doV_okk {v : Vx} {m : Mu} (h : v.ok) (hm : m.ok) (hl : v.es.length < 8796093022208) : ∀ y ∈ (doV v m).1, y.ok := by
 intro y hy
 unfold doV at hy
 split at hy
 ·cases hy
 ·split at hy
  ·split at hy
   ·rw [List.mem_singleton] at hy
    subst hy
    refine ⟨h.id, h.val, fun e he => ?_, by simp only [List.length_append, List.length_take, List.length_drop]; omega⟩
    rcases List.mem_append.1 he with he | he
    ·exact h.es e (List.mem_of_mem_take he)
    ·exact h.es e (List.mem_of_mem_drop he)
   ·rw [List.mem_singleton] at hy; subst hy; exact h
  ·split at hy
   ·split at hy
    ·rw [List.mem_singleton] at hy; subst hy; exact h
    ·rw [List.mem_singleton] at hy
     subst hy
     refine ⟨h.id, h.val, fun e he => ?_, by simp only [List.length_append, List.length_take, List.length_cons, List.length_drop]; omega⟩
     rcases List.mem_append.1 he with he | he
     ·exact h.es e (List.mem_of_mem_take he)
     ·rcases List.mem_cons.1 he with rfl | he
      ·exact ⟨hm.t, hm.v⟩
      ·exact h.es e (List.mem_of_mem_drop he)
   ·rw [List.mem_singleton] at hy; subst hy; exact h
theorem doG_okk {G : List Vx} {m : Mu} (hf : Fine G) (h : ∀ v ∈ G, v.ok) (hm : m.ok) (hl : ∀ v ∈ G, v.es.length < 8796093022208) : ∀ y ∈ (doG G m).1, y.ok := by
 intro y hy
 rcases doG_form hf m with ⟨A, v, B, h1, h2, h3, h4, e⟩ | ⟨A, B, h1, h3, h4, e⟩
 ·rw [e] at hy
  rw [h1] at h hl
  rcases List.mem_append.1 hy with hy | hy
  ·exact h y (by simp [hy])
  ·rcases List.mem_append.1 hy with hy | hy
   ·exact doV_okk (h v (by simp)) hm (hl v (by simp)) y hy
   ·exact h y (by simp [hy])
 ·rw [e] at hy
  rw [h1] at h
  rcases List.mem_append.1 hy with hy | hy
  ·exact h y (by simp [hy])
  ·rcases List.mem_append.1 hy with hy | hy
   ·unfold noV at hy
    split at hy
    ·rw [List.mem_singleton] at hy
     subst hy
     exact ⟨hm.i, hm.v, fun e he => (by cases he), by simp⟩
    ·cases hy
   ·exact h y (by simp [hy])
theorem runU_okk {s : List Vx × Nat} {n : Nat} (hf : Fine s.1) (hu : Up n s.1) (h : ∀ v ∈ s.1, v.ok) : ∀ (l : List Mu), (∀ m ∈ l, m.ok) → n + l.length < 8796093022208 → ∀ y ∈ (runU s l).1, y.ok := by
 intro l
 induction l generalizing s n with
 | nil => exact fun _ _ => h
 | cons m l ih =>
  intro hm hl
  rw [List.length_cons] at hl
  exact ih (s := stepU s m) (doG_fine hf m) (doG_up hf m hu) (doG_okk hf h (hm m (by simp)) (fun v hv => by have := hu.2 v hv; omega)) (fun x hx => hm x (by simp [hx])) (by omega)
theorem appG_okk {G : List Vx} {l : List Mu} {n : Nat} (hf : Fine G) (hu : Up n G) (h : ∀ v ∈ G, v.ok) (hm : ∀ m ∈ l, m.ok) (hl : n + l.length < 8796093022208) : ∀ y ∈ (appG G l).1, y.ok :=
 runU_okk (s := (G, 0)) hf hu h (thatC l) (fun m hx => hm m (thatC_mem hx)) (by have := thatC_len l; omega)
end
section
open Go.RowKit Go.Maps
def forgetH (H : Int → Bool) (l : List Mu) : Int → Bool := fun x => H x && !(l.any fun m => m.k == 2 && m.i == x)
def closeP (s : St) (sent : List Msg) (asked : List Mu) : St := ⟨(appG s.G asked).1, forgetH s.H asked, s.B ++ sent.filter fun m => (ids (appG s.G asked).1).contains m.t⟩
theorem forgetH_nil (H : Int → Bool) : forgetH H [] = H := by funext x; simp [forgetH]
theorem forgetH_snoc2 (H : Int → Bool) (l : List Mu) {m : Mu} (h : m.k = 2) : forgetH H (l ++ [m]) = fun y => if y = m.i then false else forgetH H l y := by
 funext y
 unfold forgetH
 by_cases e : y = m.i
 ·subst e; simp [h]
 ·have : (m.i == y) = false := by simpa using fun e' => e e'.symm
  simp [h, e, this]
theorem forgetH_snoc (H : Int → Bool) (l : List Mu) {m : Mu} (h : ¬ m.k = 2) : forgetH H (l ++ [m]) = forgetH H l := by
 funext y
 unfold forgetH
 have : (m.k == 2) = false := by simpa using h
 simp [this]
theorem BMap.del {w : World} {b n : Nat} {f : Int → Bool} (h : BMap w b n f) {x : Int} (hx : I64 x) (ty : TypeId) : ∃ w', (Builtin.delete_ #[120, 2] ty #[.map (some b), .int .i64 x]).run Tryz.prog w = .ok (.tuple #[]) w' ∧ BMap w' b n (fun y => if y = x then false else f y) ∧ Fr w w' (fun k => k = b) := by
 obtain ⟨D, h, hat⟩ := h
 obtain ⟨w', hrun, h1, h2⟩ := h.drop mlaw64 Tryz.underlying120 (mkeyOf hx) ty
 refine ⟨w', hrun, ⟨_, h1, fun y => ?_⟩, Fr.grown h2.grown (fun k e => by cases e; rfl)⟩
 show _ = DataW.lit (Lit.bool (if y = x then false else f y))
 by_cases e : y = x
 ·subst e
  rw [if_pos rfl, atKey_del_same]
 ·rw [if_neg e, atKey_del_other (mkey_ne e), hat]
section
variable {w : World} {S : Nat → Prop} {p n : Nat} {s : St} {sv : Value} {M : List (Vx × Value)} {hm bx : Nat} {SB : Nat → Prop}
theorem PA.halts {w' : World} (h : PA w S p n s sv M hm bx SB) {H' : Int → Bool} (hm' : BMap w' hm n H') (f : Fr w w' (fun k => k = hm)) : PA w' S p n ⟨s.G, H', s.B⟩ sv M hm bx SB :=
 { blk := (f.block p h.plt h.ph).trans h.blk, gw := h.gw.keepS f (fun k hk => (h.gp k hk).2.1), gs := h.gs, hal := hm', box := h.box.kept f (fun _ hk e => h.hb (e ▸ hk)), lt := fun k hk => Nat.lt_of_lt_of_le (h.lt k hk) f.size, inP := h.inP, inH := h.inH, inB := h.inB, inG := h.inG, ph := h.ph, pb := h.pb, hb := h.hb, gp := h.gp }
end
set_option maxHeartbeats 2000000 in
theorem forget_r4 {W0 : World} {A : Act} {p hm mb : Nat} {x : Int} {TQ : World → Prop} {Q : Exit → Act → World → Prop} (hsz : A.tmps.size = 22) (hA0 : A.eval (.tmp 0) = .pointer (some ⟨p, 0, none⟩)) (hA5 : A.eval (.tmp 5) = .pointer (some ⟨mb, 0, none⟩)) (hP : W0.cell? ⟨p, 1, none⟩ = some (.map (some hm))) (hM : W0.cell? ⟨mb, 1, none⟩ = some (.int .i64 x)) (hDel : ∀ W, Below W0.heap.size W0 W → ∀ ty, ∃ w', (Builtin.delete_ #[120, 2] ty #[.map (some hm), .int .i64 x]).run Tryz.prog W = .ok (.tuple #[]) w' ∧ TQ w')
  (HK : ∀ X W, TQ W → Q .normal (puts A X [15, 16, 17, 18, 19, 20, 1000006]) W) :
  Code.wp Tryz.prog ((Tryz.f89.body.bind (regionJ 4)).getD .skip) Q A W0 := by
 obtain ⟨ds, hds⟩ : ∃ ds, [15, 16, 17, 18, 19, 20, 1000006] = ds := ⟨_, rfl⟩
 have hin : ∀ {X : Nat → Value} {k : Nat}, k ∈ [15, 16, 17, 18, 19, 20, 1000006] → k < 22 → (puts A X ds).eval (.tmp k) = X k := fun hk hl => by rw [← hds]; exact eval_in hk (by rw [hsz]; exact hl)
 have hout : ∀ {X : Nat → Value} {k : Nat}, k ∉ [15, 16, 17, 18, 19, 20, 1000006] → (puts A X ds).eval (.tmp k) = A.eval (.tmp k) := fun hk => by rw [← hds]; exact eval_out hk
 have g0 : ds.getD 0 0 = 15 := by rw [← hds]; rfl
 have g1 : ds.getD 1 0 = 16 := by rw [← hds]; rfl
 have g2 : ds.getD 2 0 = 17 := by rw [← hds]; rfl
 have g3 : ds.getD 3 0 = 18 := by rw [← hds]; rfl
 have g4 : ds.getD 4 0 = 19 := by rw [← hds]; rfl
 have g5 : ds.getD 5 0 = 20 := by rw [← hds]; rfl
 have g6 : ds.getD 6 0 = 1000006 := by rw [← hds]; rfl
 obtain ⟨R, hR⟩ : ∃ R : World → World → Prop, ∀ W W', R W W' = (True) := ⟨fun W W' => True, fun _ _ => rfl⟩
 obtain ⟨V, hV, e0, e1, e2, e3, e4, e5, e6⟩ : ∃ V : Nat → Value → World → Prop, (∀ i v W W', V i v W → R W W' → V i v W') ∧ (∀ v W, V 0 v W = (v = .pointer (some ⟨p, 0, none⟩))) ∧ (∀ v W, V 1 v W = (v = .pointer (some ⟨p, 0, none⟩))) ∧ (∀ v W, V 2 v W = (v = .pointer (some ⟨p, 1, none⟩))) ∧ (∀ v W, V 3 v W = (v = .map (some hm))) ∧ (∀ v W, V 4 v W = (v = .pointer (some ⟨mb, 1, none⟩))) ∧ (∀ v W, V 5 v W = (v = .int .i64 x)) ∧ (∀ v W, V 6 v W = (True)) := by
  refine ⟨fun i v W => match i with
   | 0 => v = .pointer (some ⟨p, 0, none⟩)
   | 1 => v = .pointer (some ⟨p, 0, none⟩)
   | 2 => v = .pointer (some ⟨p, 1, none⟩)
   | 3 => v = .map (some hm)
   | 4 => v = .pointer (some ⟨mb, 1, none⟩)
   | 5 => v = .int .i64 x
   | 6 => True
   | _ => True, ?_, fun _ _ => rfl, fun _ _ => rfl, fun _ _ => rfl, fun _ _ => rfl, fun _ _ => rfl, fun _ _ => rfl, fun _ _ => rfl⟩
  intro i v W W' h hb
  rw [hR] at hb
  match i, h with
  | 0, h => exact h
  | 1, h => exact h
  | 2, h => exact h
  | 3, h => exact h
  | 4, h => exact h
  | 5, h => exact h
  | 6, h => exact h
  | _ + 7, _ => trivial
 obtain ⟨T, hTC, hTS, t0, t1⟩ : ∃ T : Nat → (Nat → Value) → World → Prop, (∀ m X W, T m X W → (True)) ∧ (∀ m X X' W, (∀ i, i < 7 → ([none, none, none, none, none, none, some 0] : List (Option Nat)).getD i none ≠ none → X (ds.getD i 0) = X' (ds.getD i 0)) → T m X W → T m X' W) ∧ (∀ X W, T 0 X W = (Below W0.heap.size W0 W)) ∧ (∀ X W, T 1 X W = (TQ W)) := by
  refine ⟨fun m X W => match m with
   | 0 => Below W0.heap.size W0 W
   | 1 => TQ W
   | _ => False, ?_, ?_, fun _ _ => rfl, fun _ _ => rfl⟩
  ·intro m X W h
   match m, h with
   | 0, h => exact trivial
   | 1, h => exact trivial
  ·intro m X X' W he h
   match m, h with
   | 0, h => exact h
   | 1, h => exact h
 conv => arg 2; whnf
 refine wp_region_T ds [none, none, none, none, none, none, some 0] 1 V T R (by kernel_rfl) (by kernel_rfl) (by rw [hsz]; decide) (by rw [← hds]; kernel_rfl) (by kernel_rfl) hV hTS ?_ ?_ ?_
 ·rw [t0]; exact ⟨rfl, rfl, rfl, Nat.le_refl _, fun _ _ => rfl⟩
 ·refine ⟨⟨?_, ?_⟩, ⟨?_, ?_⟩, ⟨?_, ?_⟩, ⟨?_, ?_⟩, ⟨?_, ?_⟩, ⟨?_, ?_⟩, ⟨?_, ?_⟩, trivial⟩
  ·intro _ X W m hTm hw hd hu
   have hC := hTC _ _ _ hTm
   have h0 := hout (X := X) (k := 0) (by decide)
   rw [hA0] at h0
   refine op_value (v := .pointer (some ⟨p, 0, none⟩)) (w' := W) ?_ ⟨_, rfl, by rw [e0], hTm, by rw [hR]; trivial⟩
   generalize (puts A X ds).eval = ρ at h0 ⊢
   go_simp
  ·intro m h; have h' : (none : Option Nat) = some m := h; cases h'
  ·intro _ X W m hTm hw hd hu
   have hC := hTC _ _ _ hTm
   have d0 := hd 0 (by kernel_rfl)
   rw [e0, g0] at d0
   have h0 := (hin (X := X) (k := 15) (by decide) (by decide)).trans d0
   refine op_value (v := .pointer (some ⟨p, 0, none⟩)) (w' := W) ?_ ⟨_, rfl, by rw [e1], hTm, by rw [hR]; trivial⟩
   generalize (puts A X ds).eval = ρ at h0 ⊢
   go_simp
  ·intro m h; have h' : (none : Option Nat) = some m := h; cases h'
  ·intro _ X W m hTm hw hd hu
   have hC := hTC _ _ _ hTm
   have d0 := hd 1 (by kernel_rfl)
   rw [e1, g1] at d0
   have h0 := (hin (X := X) (k := 16) (by decide) (by decide)).trans d0
   refine op_value (v := .pointer (some ⟨p, 1, none⟩)) (w' := W) ?_ ⟨_, rfl, by rw [e2], hTm, by rw [hR]; trivial⟩
   generalize (puts A X ds).eval = ρ at h0 ⊢
   go_simp
  ·intro m h; have h' : (none : Option Nat) = some m := h; cases h'
  ·intro _ X W m hTm hw hd hu
   have hC := hTC _ _ _ hTm
   have d0 := hd 2 (by kernel_rfl)
   rw [e2, g2] at d0
   have h0 := (hin (X := X) (k := 17) (by decide) (by decide)).trans d0
   have hz := hw 6 0 (by decide) rfl (by kernel_rfl)
   obtain rfl : m = 0 := by omega
   have hT0 := hTm
   rw [t0] at hT0
   have c0 := (hT0.cell (p := ⟨p, 1, none⟩) (lt_cell hP)).trans hP
   refine op_value (v := .map (some hm)) (w' := W) ?_ ⟨_, rfl, by rw [e3], hTm, by rw [hR]; trivial⟩
   generalize (puts A X ds).eval = ρ at h0 ⊢
   go_simp
  ·intro m h; have h' : (none : Option Nat) = some m := h; cases h'
  ·intro _ X W m hTm hw hd hu
   have hC := hTC _ _ _ hTm
   have h0 := hout (X := X) (k := 5) (by decide)
   rw [hA5] at h0
   refine op_value (v := .pointer (some ⟨mb, 1, none⟩)) (w' := W) ?_ ⟨_, rfl, by rw [e4], hTm, by rw [hR]; trivial⟩
   generalize (puts A X ds).eval = ρ at h0 ⊢
   go_simp
  ·intro m h; have h' : (none : Option Nat) = some m := h; cases h'
  ·intro _ X W m hTm hw hd hu
   have hC := hTC _ _ _ hTm
   have d0 := hd 4 (by kernel_rfl)
   rw [e4, g4] at d0
   have h0 := (hin (X := X) (k := 19) (by decide) (by decide)).trans d0
   have hz := hw 6 0 (by decide) rfl (by kernel_rfl)
   obtain rfl : m = 0 := by omega
   have hT0 := hTm
   rw [t0] at hT0
   have c0 := (hT0.cell (p := ⟨mb, 1, none⟩) (lt_cell hM)).trans hM
   refine op_value (v := .int .i64 x) (w' := W) ?_ ⟨_, rfl, by rw [e5], hTm, by rw [hR]; trivial⟩
   generalize (puts A X ds).eval = ρ at h0 ⊢
   go_simp
  ·intro m h; have h' : (none : Option Nat) = some m := h; cases h'
  ·intro h; have h' : (some 0 : Option Nat) = none := h; cases h'
  ·intro m hm0 X W hTm hd hu
   have hm1 : some 0 = some m := hm0
   cases hm1
   have hC := hTC _ _ _ hTm
   have d0 := hd 3 (by kernel_rfl)
   rw [e3, g3] at d0
   have h0 := (hin (X := X) (k := 18) (by decide) (by decide)).trans d0
   have d1 := hd 5 (by kernel_rfl)
   rw [e5, g5] at d1
   have h1 := (hin (X := X) (k := 20) (by decide) (by decide)).trans d1
   rw [t0] at hTm
   unfold Oper.wp execOp
   obtain ⟨W', hrun, hq⟩ := hDel W hTm 0
   simp only [resolve, invoke, builtin, Sem.run_bind, Sem.run_pure, Result.andThen_ok, List.map_toArray, List.map_cons, List.map_nil, h0, h1, hrun]
   exact ⟨_, rfl, by rw [e6]; trivial, by rw [t1]; exact hq, by rw [hR]; trivial⟩
 ·intro X W hall hTm
  have r0 := hall 0 (by decide)
  rw [e0, g0] at r0
  have r1 := hall 1 (by decide)
  rw [e1, g1] at r1
  have r2 := hall 2 (by decide)
  rw [e2, g2] at r2
  have r3 := hall 3 (by decide)
  rw [e3, g3] at r3
  have r4 := hall 4 (by decide)
  rw [e4, g4] at r4
  have r5 := hall 5 (by decide)
  rw [e5, g5] at r5
  rw [t1] at hTm
  have := HK X W hTm
  rw [hds] at this
  exact this
theorem size_msgB : (Tryz.prog.info? 201).map (·.size) = some 4 := by kernel_rfl
set_option maxHeartbeats 2000000 in
theorem bring_r13 {W0 : World} {A : Act} {p bx mb : Nat} {m : Msg} {TQ : World → Prop} {Q : Exit → Act → World → Prop} (hsz : A.tmps.size = 58) (hA0 : A.eval (.tmp 0) = .pointer (some ⟨p, 0, none⟩)) (hA8 : A.eval (.tmp 8) = .pointer (some ⟨mb, 0, none⟩)) (hP : W0.cell? ⟨p, 2, none⟩ = some (.pointer (some ⟨bx, 0, none⟩))) (hM : W0.heap[mb]? = some (.cells #[.int .i64 m.f, .int .i64 m.t, .int .i64 m.a, .int .i64 m.v] 201 (0, 0))) (hPut : ∀ W e, Below W0.heap.size W0 W → W0.heap.size ≤ e → W.heap[e]? = some (.cells #[.int .i64 m.f, .int .i64 m.t, .int .i64 m.a, .int .i64 m.v] 201 (0, 0)) → Calls Tryz.prog 116 #[.pointer (some ⟨bx, 0, none⟩), .slice (some ⟨e, 0, none⟩) 1 1] W fun r W' => r = .returned (.int .i64 0) ∧ TQ W' ∧ ∀ e, W0.heap.size ≤ e → e < W.heap.size → W'.heap[e]? = W.heap[e]?)
  (HK : ∀ X W, TQ W → Q .normal (puts A X [50, 51, 52, 53, 54, 55, 56]) W) :
  Code.wp Tryz.prog ((Tryz.f90.body.bind (regionJ 13)).getD .skip) Q A W0 := by
 obtain ⟨ds, hds⟩ : ∃ ds, [50, 51, 52, 53, 54, 55, 56] = ds := ⟨_, rfl⟩
 have hin : ∀ {X : Nat → Value} {k : Nat}, k ∈ [50, 51, 52, 53, 54, 55, 56] → k < 58 → (puts A X ds).eval (.tmp k) = X k := fun hk hl => by rw [← hds]; exact eval_in hk (by rw [hsz]; exact hl)
 have hout : ∀ {X : Nat → Value} {k : Nat}, k ∉ [50, 51, 52, 53, 54, 55, 56] → (puts A X ds).eval (.tmp k) = A.eval (.tmp k) := fun hk => by rw [← hds]; exact eval_out hk
 have g0 : ds.getD 0 0 = 50 := by rw [← hds]; rfl
 have g1 : ds.getD 1 0 = 51 := by rw [← hds]; rfl
 have g2 : ds.getD 2 0 = 52 := by rw [← hds]; rfl
 have g3 : ds.getD 3 0 = 53 := by rw [← hds]; rfl
 have g4 : ds.getD 4 0 = 54 := by rw [← hds]; rfl
 have g5 : ds.getD 5 0 = 55 := by rw [← hds]; rfl
 have g6 : ds.getD 6 0 = 56 := by rw [← hds]; rfl
 obtain ⟨R, hR⟩ : ∃ R : World → World → Prop, ∀ W W', R W W' = (∀ e, W0.heap.size ≤ e → e < W.heap.size → W'.heap[e]? = W.heap[e]?) := ⟨fun W W' => ∀ e, W0.heap.size ≤ e → e < W.heap.size → W'.heap[e]? = W.heap[e]?, fun _ _ => rfl⟩
 obtain ⟨V, hV, e0, e1, e2, e3, e4, e5, e6⟩ : ∃ V : Nat → Value → World → Prop, (∀ i v W W', V i v W → R W W' → V i v W') ∧ (∀ v W, V 0 v W = (v = .pointer (some ⟨p, 0, none⟩))) ∧ (∀ v W, V 1 v W = (v = .pointer (some ⟨p, 0, none⟩))) ∧ (∀ v W, V 2 v W = (v = .pointer (some ⟨p, 2, none⟩))) ∧ (∀ v W, V 3 v W = (v = .pointer (some ⟨bx, 0, none⟩))) ∧ (∀ v W, V 4 v W = (v = .agg #[.int .i64 m.f, .int .i64 m.t, .int .i64 m.a, .int .i64 m.v])) ∧ (∀ v W, V 5 v W = (∃ e, v = .slice (some ⟨e, 0, none⟩) 1 1 ∧ W0.heap.size ≤ e ∧ W.heap[e]? = some (.cells #[.int .i64 m.f, .int .i64 m.t, .int .i64 m.a, .int .i64 m.v] 201 (0, 0)))) ∧ (∀ v W, V 6 v W = (True)) := by
  refine ⟨fun i v W => match i with
   | 0 => v = .pointer (some ⟨p, 0, none⟩)
   | 1 => v = .pointer (some ⟨p, 0, none⟩)
   | 2 => v = .pointer (some ⟨p, 2, none⟩)
   | 3 => v = .pointer (some ⟨bx, 0, none⟩)
   | 4 => v = .agg #[.int .i64 m.f, .int .i64 m.t, .int .i64 m.a, .int .i64 m.v]
   | 5 => ∃ e, v = .slice (some ⟨e, 0, none⟩) 1 1 ∧ W0.heap.size ≤ e ∧ W.heap[e]? = some (.cells #[.int .i64 m.f, .int .i64 m.t, .int .i64 m.a, .int .i64 m.v] 201 (0, 0))
   | 6 => True
   | _ => True, ?_, fun _ _ => rfl, fun _ _ => rfl, fun _ _ => rfl, fun _ _ => rfl, fun _ _ => rfl, fun _ _ => rfl, fun _ _ => rfl⟩
  intro i v W W' h hb
  rw [hR] at hb
  match i, h with
  | 0, h => exact h
  | 1, h => exact h
  | 2, h => exact h
  | 3, h => exact h
  | 4, h => exact h
  | 5, h => exact (by obtain ⟨e, h1, h2, h3⟩ := h; exact ⟨e, h1, h2, (hb e h2 (Array.getElem?_eq_some_iff.1 h3).1).trans h3⟩)
  | 6, h => exact h
  | _ + 7, _ => trivial
 obtain ⟨T, hTC, hTS, t0, t1⟩ : ∃ T : Nat → (Nat → Value) → World → Prop, (∀ m X W, T m X W → (True)) ∧ (∀ m X X' W, (∀ i, i < 7 → ([none, none, none, none, none, none, some 0] : List (Option Nat)).getD i none ≠ none → X (ds.getD i 0) = X' (ds.getD i 0)) → T m X W → T m X' W) ∧ (∀ X W, T 0 X W = (Below W0.heap.size W0 W)) ∧ (∀ X W, T 1 X W = (TQ W)) := by
  refine ⟨fun m X W => match m with
   | 0 => Below W0.heap.size W0 W
   | 1 => TQ W
   | _ => False, ?_, ?_, fun _ _ => rfl, fun _ _ => rfl⟩
  ·intro m X W h
   match m, h with
   | 0, h => exact trivial
   | 1, h => exact trivial
  ·intro m X X' W he h
   match m, h with
   | 0, h => exact h
   | 1, h => exact h
 have hRefl : ∀ W : World, ∀ e, W0.heap.size ≤ e → e < W.heap.size → W.heap[e]? = W.heap[e]? := fun _ _ _ _ => rfl
 conv => arg 2; whnf
 refine wp_region_T ds [none, none, none, none, none, none, some 0] 1 V T R (by kernel_rfl) (by kernel_rfl) (by rw [hsz]; decide) (by rw [← hds]; kernel_rfl) (by kernel_rfl) hV hTS ?_ ?_ ?_
 ·rw [t0]; exact ⟨rfl, rfl, rfl, Nat.le_refl _, fun _ _ => rfl⟩
 ·refine ⟨⟨?_, ?_⟩, ⟨?_, ?_⟩, ⟨?_, ?_⟩, ⟨?_, ?_⟩, ⟨?_, ?_⟩, ⟨?_, ?_⟩, ⟨?_, ?_⟩, trivial⟩
  ·intro _ X W m hTm hw hd hu
   have hC := hTC _ _ _ hTm
   have h0 := hout (X := X) (k := 0) (by decide)
   rw [hA0] at h0
   refine op_value (v := .pointer (some ⟨p, 0, none⟩)) (w' := W) ?_ ⟨_, rfl, by rw [e0], hTm, by rw [hR]; exact hRefl W⟩
   generalize (puts A X ds).eval = ρ at h0 ⊢
   go_simp
  ·intro m h; have h' : (none : Option Nat) = some m := h; cases h'
  ·intro _ X W m hTm hw hd hu
   have hC := hTC _ _ _ hTm
   have d0 := hd 0 (by kernel_rfl)
   rw [e0, g0] at d0
   have h0 := (hin (X := X) (k := 50) (by decide) (by decide)).trans d0
   refine op_value (v := .pointer (some ⟨p, 0, none⟩)) (w' := W) ?_ ⟨_, rfl, by rw [e1], hTm, by rw [hR]; exact hRefl W⟩
   generalize (puts A X ds).eval = ρ at h0 ⊢
   go_simp
  ·intro m h; have h' : (none : Option Nat) = some m := h; cases h'
  ·intro _ X W m hTm hw hd hu
   have hC := hTC _ _ _ hTm
   have d0 := hd 1 (by kernel_rfl)
   rw [e1, g1] at d0
   have h0 := (hin (X := X) (k := 51) (by decide) (by decide)).trans d0
   refine op_value (v := .pointer (some ⟨p, 2, none⟩)) (w' := W) ?_ ⟨_, rfl, by rw [e2], hTm, by rw [hR]; exact hRefl W⟩
   generalize (puts A X ds).eval = ρ at h0 ⊢
   go_simp
  ·intro m h; have h' : (none : Option Nat) = some m := h; cases h'
  ·intro _ X W m hTm hw hd hu
   have hC := hTC _ _ _ hTm
   have d0 := hd 2 (by kernel_rfl)
   rw [e2, g2] at d0
   have h0 := (hin (X := X) (k := 52) (by decide) (by decide)).trans d0
   have hz := hw 6 0 (by decide) rfl (by kernel_rfl)
   obtain rfl : m = 0 := by omega
   have hT0 := hTm
   rw [t0] at hT0
   have c0 := (hT0.cell (p := ⟨p, 2, none⟩) (lt_cell hP)).trans hP
   refine op_value (v := .pointer (some ⟨bx, 0, none⟩)) (w' := W) ?_ ⟨_, rfl, by rw [e3], hTm, by rw [hR]; exact hRefl W⟩
   generalize (puts A X ds).eval = ρ at h0 ⊢
   go_simp
  ·intro m h; have h' : (none : Option Nat) = some m := h; cases h'
  ·intro _ X W m hTm hw hd hu
   have hC := hTC _ _ _ hTm
   have h0 := hout (X := X) (k := 8) (by decide)
   rw [hA8] at h0
   have hz := hw 6 0 (by decide) rfl (by kernel_rfl)
   obtain rfl : m = 0 := by omega
   have hT0 := hTm
   rw [t0] at hT0
   exact wp_load_row 201 _ rfl mb h0 201 #[.int .i64 m.f, .int .i64 m.t, .int .i64 m.a, .int .i64 m.v] (0, 0) _ ((hT0.block mb (Array.getElem?_eq_some_iff.1 hM).1).trans hM) Tryz.underlying201 rfl size_msgB ⟨_, rfl, by rw [e4], hTm, by rw [hR]; exact hRefl W⟩
  ·intro m h; have h' : (none : Option Nat) = some m := h; cases h'
  ·intro _ X W m hTm hw hd hu
   have hC := hTC _ _ _ hTm
   have d0 := hd 4 (by kernel_rfl)
   rw [e4, g4] at d0
   have h0 := (hin (X := X) (k := 54) (by decide) (by decide)).trans d0
   have hz := hw 6 0 (by decide) rfl (by kernel_rfl)
   obtain rfl : m = 0 := by omega
   have hT0 := hTm
   rw [t0] at hT0
   refine op_value (v := .slice (some ⟨W.heap.size, 0, none⟩) 1 1) (w' := W.alloc (.cells #[.int .i64 m.f, .int .i64 m.t, .int .i64 m.a, .int .i64 m.v] 201)) ?_ ⟨_, rfl, by rw [e5]; exact ⟨_, rfl, hT0.size, heap_alloc_new _ _⟩, by rw [t0]; exact hT0.trans ((one_new W _).mono hT0.size), by rw [hR]; exact fun e _ hlt => (one_new W _).block e hlt⟩
   generalize (puts A X ds).eval = ρ at h0 ⊢
   go_simp
  ·intro m h; have h' : (none : Option Nat) = some m := h; cases h'
  ·intro h; have h' : (some 0 : Option Nat) = none := h; cases h'
  ·intro m hm0 X W hTm hd hu
   have hm1 : some 0 = some m := hm0
   cases hm1
   have hC := hTC _ _ _ hTm
   have d0 := hd 3 (by kernel_rfl)
   rw [e3, g3] at d0
   have h0 := (hin (X := X) (k := 53) (by decide) (by decide)).trans d0
   have d1 := hd 5 (by kernel_rfl)
   rw [e5, g5] at d1
   have h1 := hin (X := X) (k := 55) (by decide) (by decide)
   have d1q := d1
   rw [t0] at hTm
   obtain ⟨e, hv, he, hblk⟩ := d1q
   have hf : (puts A X ds).eval (.func 116) = .func (.func 116) #[] #[] := rfl
   rw [hv] at h1
   refine op_call (f := 116) (vs := #[.pointer (some ⟨bx, 0, none⟩), .slice (some ⟨e, 0, none⟩) 1 1]) ?_ ?_
   ·generalize (puts A X ds).eval = ρ at h0 h1 hf ⊢
    go_simp
   ·refine (hPut W e hTm he hblk).mono ?_
    rintro r W' ⟨rfl, hq, hfr⟩
    exact ⟨_, rfl, _, rfl, by rw [e6]; trivial, by rw [t1]; exact hq, by rw [hR]; exact hfr⟩
 ·intro X W hall hTm
  have r0 := hall 0 (by decide)
  rw [e0, g0] at r0
  have r1 := hall 1 (by decide)
  rw [e1, g1] at r1
  have r2 := hall 2 (by decide)
  rw [e2, g2] at r2
  have r3 := hall 3 (by decide)
  rw [e3, g3] at r3
  have r4 := hall 4 (by decide)
  rw [e4, g4] at r4
  have r5 := hall 5 (by decide)
  rw [e5, g5] at r5
  rw [t1] at hTm
  have := HK X W hTm
  rw [hds] at this
  exact this
section
variable {w : World} {S : Nat → Prop} {p n : Nat} {s : St} {sv : Value} {M : List (Vx × Value)} {hm bx : Nat} {SB : Nat → Prop}
theorem ku_cells {W : World} {b : Nat} {x : Mu} (h : W.heap[b]? = some (.cells #[.int .i64 x.k, .int .i64 x.i, .int .i64 x.t, .int .i64 x.v] 195 (0, 0))) : W.cell? ⟨b, 0, none⟩ = some (.int .i64 x.k) ∧ W.cell? ⟨b, 1, none⟩ = some (.int .i64 x.i) := by
 simp [World.cell?, h]
set_option maxHeartbeats 2000000 in
theorem forget_any (h : PA w S p n s sv M hm bx SB) {L : List Mu} {lo : Option Addr} {lc : Nat} (hL : UsAt w (fun k => ¬ S k) lo L) (hok : ∀ m ∈ L, m.ok) (hl : L.length ≤ 1073741824) :
  Calls Tryz.prog 89 #[.pointer (some ⟨p, 0, none⟩), .slice lo L.length lc] w fun r w' => r = .returned (.tuple #[]) ∧ PA w' S p n ⟨s.G, forgetH s.H L, s.B⟩ sv M hm bx SB ∧ Fr w w' (fun k => k = hm) := by
 obtain ⟨N, HN⟩ : ∃ N, Hid (N = L.length) := ⟨_, rfl⟩
 have hN : N ≤ 1073741824 := by rw [HN.out]; exact hl
 have HP : Hid _ := h
 have HLs : Hid (UsAt w (fun k => ¬ S k) lo L) := hL
 have HOk : Hid (∀ m ∈ L, m.ok) := hok
 rw [← HN.out]
 clear h hL hok hl
 go_enter Tryz.func89, Tryz.ntmps89
 go_wp2
 go_loopw [5, 8] (fun _ ix wr => ∃ j : Nat, j ≤ N ∧ ix = .int .i64 j ∧ PA wr S p n ⟨s.G, forgetH s.H (L.take j), s.B⟩ sv M hm bx SB ∧ Fr w wr (fun k => k = hm)) (fun _ ix _ => N - (intOf ix).toNat)
 case atStart => exact ⟨0, Nat.zero_le _, rfl, by rw [List.take_zero, forgetH_nil]; exact HP.out, Fr.refl _ _⟩
 case round =>
  obtain ⟨j, hj, rfl, hP, hf⟩ := hrel
  by_cases hlt : j < N
  ·have hjL : j < L.length := by rw [← HN.out]; exact hlt
   obtain ⟨b, off, rfl, hSb, hc⟩ := HLs.out (by omega)
   obtain ⟨c0, c1, c2, c3⟩ := hc j hjL
   have hbh : ¬ b = hm := fun e => hSb (e ▸ hP.inH)
   have d0 := fr_cell hf hbh c0
   have d1 := fr_cell hf hbh c1
   have d2 := fr_cell hf hbh c2
   have d3 := fr_cell hf hbh c3
   have hx := (HOk.out L[j] (List.getElem_mem hjL)).i
   have HT : Hid (L.take (j + 1) = L.take j ++ [L[j]]) := List.take_succ_eq_append_getElem hjL
   generalize L[j] = y at d0 d1 d2 d3 hx HT
   have HPr : Hid _ := hP
   have HFr : Hid _ := hf
   clear hP hf hc c0 c1 c2 c3
   have hjN : (j : Int) < (N : Int) := by omega
   go_upto_region 3 with (fail)
   generalize hW : World.alloc wr _ = W1
   have hb1 : Below wr.heap.size wr W1 := by rw [← hW]; exact one_newK _ _
   have hbx : W1.heap[wr.heap.size]? = some (.cells #[.int .i64 y.k, .int .i64 y.i, .int .i64 y.t, .int .i64 y.v] 195 (0, 0)) := by rw [← hW]; exact heap_alloc_new _ _
   obtain ⟨k0, k1⟩ := ku_cells hbx
   have HP1 : Hid _ := HPr.out.new hb1
   have HF1 : Hid (Fr w W1 (fun k => k = hm)) := HFr.out.trans (Fr.ofBelow hb1 _) (fun _ _ h => h)
   clear hW hb1 hbx HPr HFr
   by_cases hk : y.k = 2
   ·have hk1 : (y.k == 2) = true := by simpa using hk
    have c1 := HP1.out.cells.2.1
    go_upto_region 4 with (fail)
    refine forget_r4 (p := p) (hm := hm) (mb := wr.heap.size) (x := y.i) (TQ := fun W => PA W S p n ⟨s.G, forgetH s.H (L.take (j + 1)), s.B⟩ sv M hm bx SB ∧ Fr W1 W (fun k => k = hm)) rfl rfl rfl c1 k1 (fun W hb ty => ?_) ?_
    ·obtain ⟨w', h1, h2, h3⟩ := (HP1.out.new hb).hal.del hx ty
     refine ⟨w', h1, ?_, (Fr.ofBelow hb _).trans h3 (fun _ _ h => h)⟩
     rw [HT.out, forgetH_snoc2 _ _ hk]
     exact (HP1.out.new hb).halts h2 h3
    intro X W ⟨hq, hfq⟩
    have HQ : Hid _ := hq
    have HFq : Hid (Fr w W (fun k => k = hm)) := HF1.out.trans hfq (fun _ _ h => h)
    clear hq hfq c1
    simp only [puts]
    simp only [Act.put, List.setIfInBounds_toArray, List.set_cons_succ, List.set_cons_zero, List.set_nil]
    go_wp2
    go_roundw
    case rel => exact ⟨j + 1, by omega, by go_num, HQ.out, HFq.out⟩
    case measure => simp [intOf]; omega
   ·have hk1 : (y.k == 2) = false := by simpa using hk
    go_wp2
    go_roundw
    case rel => exact ⟨j + 1, by omega, by go_num, by rw [HT.out, forgetH_snoc _ _ hk]; exact HP1.out, HF1.out⟩
    case measure => simp [intOf]; omega
  ·obtain rfl : j = N := by omega
   rw [HN.out, List.take_length] at hP
   have HPr : Hid _ := hP
   have HFr : Hid _ := hf
   clear hP hf
   go_wp2
   go_end0
   exact ⟨rfl, HPr.out, HFr.out⟩
end
end
section
open Go.RowKit Go.Maps
section
variable {w : World} {S : Nat → Prop} {p n : Nat} {s : St} {sv : Value} {M : List (Vx × Value)} {hm bx : Nat} {SB : Nat → Prop}
theorem PA.boxed {w' : World} (h : PA w S p n s sv M hm bx SB) {n' : Nat} {B' : List Msg} (hn : n ≤ n') (hX : BX w' (fun k => SB k ∨ w.heap.size ≤ k) bx n' B') (f : Fr w w' SB) :
  PA w' (fun k => S k ∨ w.heap.size ≤ k) p n' ⟨s.G, s.H, B'⟩ sv M hm bx (fun k => (SB k ∨ w.heap.size ≤ k) ∧ k < w'.heap.size) := by
 have hp := h.plt
 have hhm := h.hal.lt
 have hg : ∀ k, GB sv M k → k < w.heap.size := fun k hk => (h.gw.gb hk).2
 refine { blk := (f.block p hp h.pb).trans h.blk, gw := h.gw.keepS f (fun k hk => (h.gp k hk).2.2), gs := h.gs, hal := ?_, box := hX.mono (fun k hk hs => ⟨hs, hk⟩), lt := fun k hk => hk.2, inP := .inl h.inP, inH := .inl h.inH, inB := ?_, inG := fun k hk => .inl (h.inG k hk), ph := h.ph, pb := ?_, hb := ?_, gp := ?_ }
 ·obtain ⟨D, h1, h2⟩ := h.hal.same (f.block hm hhm h.hb)
  exact ⟨D, h1.mono hn, h2⟩
 ·rintro k ⟨hk | hk, _⟩
  ·exact .inl (h.inB k hk)
  ·exact .inr hk
 ·rintro ⟨hk | hk, _⟩
  ·exact h.pb hk
  ·omega
 ·rintro ⟨hk | hk, _⟩
  ·exact h.hb hk
  ·omega
 ·intro k hk
  refine ⟨(h.gp k hk).1, (h.gp k hk).2.1, ?_⟩
  rintro ⟨hk' | hk', _⟩
  ·exact (h.gp k hk).2.2 hk'
  ·have := hg k hk; omega
theorem contains_snoc (l : List Int) (x y : Int) : ((l ++ [x]).contains y) = (l.contains y || y == x) := by
 by_cases e : y = x
 ·subst e; simp
 ·have : (y == x) = false := by simpa using e
  simp [List.contains_eq_mem, e, this]
theorem filt_no {p : Msg → Bool} {l : List Msg} {y : Msg} (h : p y = false) : (l ++ [y]).filter p = l.filter p := by simp [List.filter_append, h]
theorem filt_yes {p : Msg → Bool} {l : List Msg} {y : Msg} (h : p y = true) : (l ++ [y]).filter p = l.filter p ++ [y] := by simp [List.filter_append, h]
theorem one_atP {W : World} {g : Nat} {t : TypeId} {m : Msg} {P : Nat → Prop} (hP : P g) (h : W.heap[g]? = some (.cells #[.int .i64 m.f, .int .i64 m.t, .int .i64 m.a, .int .i64 m.v] t (0, 0))) : MsAt W P (some ⟨g, 0, none⟩) [m] := by
 intro _
 refine ⟨g, 0, rfl, hP, fun j hj => ?_⟩
 have : j = 0 := by simp at hj; omega
 subst this
 simpa using m_cells h
set_option maxHeartbeats 4000000 in
theorem bring_any (h : PA w S p n s sv M hm bx SB) (hokG : ∀ v ∈ s.G, v.ok) (hlG : s.G.length ≤ 1073741824) {L : List Msg} {lo : Option Addr} {lc : Nat} (hL : MsAt w (fun k => ¬ S k) lo L) (hok : ∀ m ∈ L, m.ok) (hl : L.length ≤ 1073741824) (hn : n + L.length ≤ 4611686018427387904) (hB : (s.B.length + L.length) * 32 ≤ 140737488355328) :
  Calls Tryz.prog 90 #[.pointer (some ⟨p, 0, none⟩), .slice lo L.length lc] w fun r w' => r = .returned (.tuple #[]) ∧ (∃ SB', PA w' (fun k => S k ∨ w.heap.size ≤ k) p (n + L.length) ⟨s.G, s.H, s.B ++ L.filter fun m => (ids s.G).contains m.t⟩ sv M hm bx SB') ∧ Fr w w' S := by
 obtain ⟨N, HN⟩ : ∃ N, Hid (N = L.length) := ⟨_, rfl⟩
 obtain ⟨K, HK⟩ : ∃ K, Hid (K = s.G.length) := ⟨_, rfl⟩
 have hN : N ≤ 1073741824 := by rw [HN.out]; exact hl
 have hK : K ≤ 1073741824 := by rw [HK.out]; exact hlG
 have hnN : n + N ≤ 4611686018427387904 := by rw [HN.out]; exact hn
 obtain ⟨svo, scap, hsv, _⟩ := h.at_
 rw [← HK.out] at hsv
 subst hsv
 have h' := h.mono (T := fun k => S k ∧ k < w.heap.size) (fun k hk hs => ⟨hs, hk⟩)
 have HP : Hid (PA w (fun k => S k ∧ k < w.heap.size) p n s (.slice svo K scap) M hm bx SB) := h'
 have HLs : Hid (MsAt w (fun k => ¬ S k) lo L) := hL
 have HOk : Hid (∀ m ∈ L, m.ok) := hok
 have HOkG : Hid (∀ v ∈ s.G, v.ok) := hokG
 have HBb : Hid _ := hB
 rw [← HN.out]
 clear h h' hL hok hokG hl hn hlG hB
 have hmm := @run_makeMap Tryz.prog
 go_enter Tryz.func90, Tryz.ntmps90
 go_upto_region 1 with (fail)
 clear hmm
 generalize hW0 : World.alloc w _ = W0
 have hb0 : Below w.heap.size w W0 := by rw [← hW0]; exact one_newK _ _
 have HSet0 : Hid (SetAt W0 w.heap.size 0 (fun _ => false)) := by rw [← hW0]; exact SetAt.made w
 obtain ⟨c0, c1, c2⟩ := (HP.out.new hb0).cells
 have HB0 : Hid _ := hb0
 clear hW0 hb0
 go_wp2
 go_loopw [6, 18] (fun _ ix wr => ∃ j : Nat, j ≤ K ∧ ix = .int .i64 j ∧ SetAt wr w.heap.size j (fun x => (ids (s.G.take j)).contains x) ∧ Below w.heap.size w wr) (fun _ ix _ => K - (intOf ix).toNat)
 case atStart => exact ⟨0, Nat.zero_le _, rfl, HSet0.out, HB0.out⟩
 case round =>
  obtain ⟨j, hj, rfl, hSet, hb⟩ := hrel
  clear HSet0 HB0
  by_cases hlt : j < K
  ·have hjG : j < s.G.length := by rw [← HK.out]; exact hlt
   have hPr := HP.out.new hb
   obtain ⟨svo', scap', e1, hvx⟩ := hPr.at_
   rw [← HK.out] at e1
   cases e1
   obtain ⟨vb, voff, rfl, _, hc⟩ := hvx (by omega)
   obtain ⟨eo, ec, d0, d1, d2, -⟩ := hc j hjG
   have hid := (HOkG.out s.G[j] (List.getElem_mem hjG)).id
   have HT : Hid (ids (s.G.take (j + 1)) = ids (s.G.take j) ++ [s.G[j].id]) := by
    show _ = _
    unfold ids
    rw [List.take_succ_eq_append_getElem hjG, List.map_append]
    rfl
   generalize s.G[j] = y at d0 d1 d2 hid HT
   have hjK : (j : Int) < (K : Int) := by omega
   have HSt : Hid _ := hSet
   have HB : Hid _ := hb
   clear hSet hb hc hvx hPr
   go_upto_region 4 with (fail)
   generalize hW : World.alloc wr _ = W1
   have hb1 : Below wr.heap.size wr W1 := by rw [← hW]; exact one_newK _ _
   have hbx : W1.heap[wr.heap.size]? = some (.cells #[.int .i64 y.id, .int .i64 y.val, .slice eo y.es.length ec] 65 (0, 0)) := by rw [← hW]; exact heap_alloc_new _ _
   have q0 : W1.cell? ⟨wr.heap.size, 0, none⟩ = some (.int .i64 y.id) := by simp [World.cell?, hbx]
   obtain ⟨w2, hrun, hs2, hf2⟩ := (SetAt.new HSt.out hb1).put (by unfold maxLen; omega) hid
   have HB2 : Hid (Below w.heap.size w w2) := (HB.out.trans (hb1.mono HB.out.size)).trans (hf2.below (by have := HB.out.size; have := hb1.size; omega) (fun k e => by omega))
   have HS2 : Hid (SetAt w2 w.heap.size (j + 1) (fun x => (ids (s.G.take (j + 1))).contains x)) := by
    rw [HT.out]
    have e : (fun x => (ids (s.G.take j) ++ [y.id]).contains x) = fun x => ((ids (s.G.take j)).contains x || x == y.id) := by funext x; exact contains_snoc _ _ _
    rw [e]
    exact hs2
   clear hW hb1 hbx hs2 hf2 HSt HB
   go_wp2
   go_roundw
   case rel => exact ⟨j + 1, by omega, by go_num, HS2.out, HB2.out⟩
   case measure => simp [intOf]; omega
  ·obtain rfl : j = K := by omega
   obtain ⟨w1, rfl⟩ : ∃ w1, w1 = wr := ⟨_, rfl⟩
   rw [HK.out, List.take_length] at hSet
   have HSt : Hid (SetAt w1 w.heap.size s.G.length (fun x => (ids s.G).contains x)) := hSet
   have HB : Hid _ := hb
   have hPr := HP.out.new hb
   obtain ⟨e0, e1, e2⟩ := hPr.cells
   clear hSet hb hPr c0 c1 c2
   go_wp2
   go_loopw [8, 9, 10, 38] (fun _ _ _ ix wr => ∃ (i : Nat) (SBi : Nat → Prop), i ≤ N ∧ ix = .int .i64 i ∧ PA wr (fun k => (S k ∧ k < w.heap.size) ∨ w1.heap.size ≤ k) p (n + i) ⟨s.G, s.H, s.B ++ (L.take i).filter fun m => (ids s.G).contains m.t⟩ (.slice svo j scap) M hm bx SBi ∧ SetAt wr w.heap.size s.G.length (fun x => (ids s.G).contains x) ∧ ¬ SBi w.heap.size ∧ Fr w wr S ∧ w1.heap.size ≤ wr.heap.size) (fun _ _ _ ix _ => N - (intOf ix).toNat)
   case atStart =>
    refine ⟨0, SB, Nat.zero_le _, rfl, ?_, HSt.out, fun e => ?_, Fr.ofBelow HB.out _, Nat.le_refl _⟩
    ·rw [List.take_zero, List.filter_nil, List.append_nil]
     exact (HP.out.new HB.out).mono (fun k _ hk => .inl hk)
    ·have := (HP.out.inB _ e).2; omega
   case round =>
    obtain ⟨i, SBi, hi, rfl, hP, hSet, hns, hf, hsz⟩ := hrel
    by_cases hlt2 : i < N
    ·have hiL : i < L.length := by rw [← HN.out]; exact hlt2
     obtain ⟨b, off, rfl, hSb, hc⟩ := HLs.out (by omega)
     obtain ⟨m0, m1, m2, m3⟩ := hc i hiL
     have d0 := fr_cell hf hSb m0
     have d1 := fr_cell hf hSb m1
     have d2 := fr_cell hf hSb m2
     have d3 := fr_cell hf hSb m3
     have hmo := HOk.out L[i] (List.getElem_mem hiL)
     have HT : Hid (L.take (i + 1) = L.take i ++ [L[i]]) := List.take_succ_eq_append_getElem hiL
     generalize L[i] = y at d0 d1 d2 d3 hmo HT
     have hiN : (i : Int) < (N : Int) := by omega
     have HPr : Hid _ := hP
     have HSr : Hid _ := hSet
     have HFr : Hid _ := hf
     have HNs : Hid _ := hns
     clear hP hSet hf hns hc m0 m1 m2 m3
     go_upto_region 11 with (fail)
     generalize hW : World.alloc wr _ = W1
     have hb1 : Below wr.heap.size wr W1 := by rw [← hW]; exact one_newK _ _
     have hbx : W1.heap[wr.heap.size]? = some (.cells #[.int .i64 y.f, .int .i64 y.t, .int .i64 y.a, .int .i64 y.v] 201 (0, 0)) := by rw [← hW]; exact heap_alloc_new _ _
     have q1 : W1.cell? ⟨wr.heap.size, 1, none⟩ = some (.int .i64 y.t) := by simp [World.cell?, hbx]
     have hlk := (SetAt.new HSr.out hb1).look hmo.t
     have HP1 : Hid _ := HPr.out.new hb1
     have HS1 : Hid _ := SetAt.new HSr.out hb1
     have HF1 : Hid (Fr w W1 S) := HFr.out.trans (Fr.ofBelow hb1 _) (fun _ _ h => h)
     have HX1 : Hid _ := hbx
     have HZ1 : Hid (w1.heap.size ≤ wr.heap.size ∧ wr.heap.size < W1.heap.size) := ⟨hsz, (Array.getElem?_eq_some_iff.1 hbx).1⟩
     clear hW hb1 hbx HPr HSr HFr
     cases hin : (ids s.G).contains y.t
     ·rw [hin] at hlk
      go_wp2
      go_roundw
      case rel =>
       refine ⟨i + 1, SBi, by omega, by go_num, ?_, SetAt.new HS1.out (one_newK _ _), HNs.out, HF1.out.trans (Fr.ofBelow (one_newK _ _) _) (fun _ _ h => h), by have := HZ1.out; simp; omega⟩
       rw [HT.out, filt_no (p := fun m => (ids s.G).contains m.t) hin]
       exact (HP1.out.new (one_newK _ _)).more (by omega)
      case measure => simp [intOf]; omega
     ·rw [hin] at hlk
      go_upto_region 13 with (fail)
      generalize hW2 : World.alloc W1 _ = W2
      have hb2 : Below W1.heap.size W1 W2 := by rw [← hW2]; exact one_newK _ _
      have hP2 := HP1.out.new hb2
      have HP2 : Hid _ := hP2
      have HS2 : Hid _ := SetAt.new HS1.out hb2
      have HF2 : Hid (Fr w W2 S) := HF1.out.trans (Fr.ofBelow hb2 _) (fun _ _ h => h)
      have HX2 : Hid _ := (hb2.block _ (Array.getElem?_eq_some_iff.1 HX1.out).1).trans HX1.out
      have HZ2 : Hid (w1.heap.size ≤ W2.heap.size ∧ w.heap.size < W2.heap.size) := by
       have := HZ1.out
       have := hb2.size
       have := SetAt.lt HS1.out
       exact ⟨by omega, by omega⟩
      have hbl : (s.B ++ (L.take i).filter fun m => (ids s.G).contains m.t).length ≤ s.B.length + i := by
       rw [List.length_append]
       have := List.length_filter_le (fun m : Msg => (ids s.G).contains m.t) (L.take i)
       rw [List.length_take] at this
       omega
      have HBl : Hid ((s.B ++ (L.take i).filter fun m => (ids s.G).contains m.t).length * 32 + 32 ≤ 140737488355328) := by
       have := HBb.out
       show _ ≤ _
       omega
      clear hW2 hb2 hbl HP1 HS1 HF1 HX1 HZ1 hlk q1
      refine bring_r13 (p := p) (bx := bx) (mb := wr.heap.size) (m := y) (TQ := fun W' => ∃ SB', PA W' (fun k => (S k ∧ k < w.heap.size) ∨ w1.heap.size ≤ k) p (n + (i + 1)) ⟨s.G, s.H, s.B ++ (L.take (i + 1)).filter fun m => (ids s.G).contains m.t⟩ (.slice svo j scap) M hm bx SB' ∧ SetAt W' w.heap.size s.G.length (fun x => (ids s.G).contains x) ∧ ¬ SB' w.heap.size ∧ Fr w W' S ∧ w1.heap.size ≤ W'.heap.size) rfl rfl rfl hP2.cells.2.2 HX2.out (fun W e hb he hblk => ?_) ?_
      ·have hPW := HP2.out.new hb
       have hlt2 := HP2.out.lt
       refine (put_box hPW.box [y] (some ⟨e, 0, none⟩) 1 (one_atP (fun hs => by have := hlt2 e hs; omega) hblk) (fun m hm => by simp at hm; subst hm; exact hmo) (by simp only [List.length_singleton]; omega) (by have := HBl.out; simp only [List.length_singleton]; omega)).mono ?_
       rintro r w' ⟨rfl, hX, hf⟩
       have hb' := hPW.boxed (n' := n + (i + 1)) (by omega) hX hf
       refine ⟨rfl, ⟨fun k => (SBi k ∨ W.heap.size ≤ k) ∧ k < w'.heap.size, ?_, SetAt.same (SetAt.new HS2.out hb) (hf.block _ (by have := HZ2.out; have := hb.size; omega) HNs.out), ?_, ?_, ?_⟩, fun e' h1 h2 => hf.block e' h2 (fun hs => by have := hlt2 e' hs; omega)⟩
       ·rw [HT.out, filt_yes (p := fun m => (ids s.G).contains m.t) hin, ← List.append_assoc]
        exact hb'.mono (fun k _ hk => by
         rcases hk with hk | hk
         ·exact hk
         ·exact .inr (by have := HZ2.out; have := hb.size; omega))
       ·rintro ⟨h1 | h1, _⟩
        ·exact HNs.out h1
        ·have := HZ2.out; have := hb.size; omega
       ·refine (HF2.out.trans (Fr.ofBelow hb _) (fun _ _ h => h)).trans hf (fun k hk hs => ?_)
        rcases hPW.inB k hs with h1 | h1
        ·exact h1.1
        ·have := HB.out.size; omega
       ·have := hf.size; have := HZ2.out; have := hb.size; omega
      intro X W ⟨SB', hq1, hq2, hq3, hq4, hq5⟩
      have HQ1 : Hid _ := hq1
      have HQ2 : Hid _ := hq2
      have HQ3 : Hid _ := hq3
      have HQ4 : Hid _ := hq4
      clear hq1 hq2 hq3 hq4 HP2 HS2 HF2 HX2 hP2
      simp only [puts]
      simp only [Act.put, List.setIfInBounds_toArray, List.set_cons_succ, List.set_cons_zero]
      go_wp2
      go_roundw
      case rel => exact ⟨i + 1, SB', by omega, by go_num, HQ1.out, HQ2.out, HQ3.out, HQ4.out, hq5⟩
      case measure => simp [intOf]; omega
    ·obtain rfl : i = N := by omega
     rw [HN.out, List.take_length] at hP
     have HPr : Hid _ := hP
     have HFr : Hid _ := hf
     clear hP hf
     go_wp2
     go_end0
     refine ⟨rfl, ⟨SBi, ?_⟩, HFr.out⟩
     rw [HN.out]
     exact HPr.out.mono (fun k _ hk => by rcases hk with hk | hk; exact .inl hk.1; exact .inr (by have := HB.out.size; omega))
end
end
end Go.Proofs.YtmgjlamglhpnaaaGreat
