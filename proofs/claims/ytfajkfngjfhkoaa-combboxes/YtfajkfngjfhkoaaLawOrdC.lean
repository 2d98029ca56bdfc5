/- CombOrders: its regions that draw their order. -/
import Derived.Test.YtfajkfngjfhkoaaLawOrdR
import Derived.Test.YtfajkfngjfhkoaaOrdL
namespace Go.Proofs.Ytfajkfngjfhkoaa
open Go.RowKit Go.Maps
/-- A region of a function's code. -/
def regionOfC (n : Nat) : Code → Option Code
  | .region m ops d => if m = n then some (.region m ops d) else none
  | .loop c => regionOfC n c
  | .seq a b => match regionOfC n a with
    | some c => some c
    | none => regionOfC n b
  | .block _ c => regionOfC n c
  | .scope c => regionOfC n c
  | .cond _ a b => match regionOfC n a with
    | some c => some c
    | none => regionOfC n b
  | _ => none
theorem cmpM_le {x y : Msg} (h : mlt y x = false) : cmpM x y ≤ 0 := by
  rw [Bool.eq_false_iff, ne_eq, mlt_iff] at h
  unfold cmpM c3
  repeat' split
  all_goals omega
theorem b20 {W w1 : World} (h : Below W.drew.heap.size W.drew w1) : Below W.heap.size W w1 := ((Below.refl W.heap.size W).drew).trans h
theorem grow_below (w : World) (n : Nat) (os : Array Obj) : Below w.heap.size w (Sort.grow (w.drewN n) os) := by
  have h1 : Below w.heap.size w (w.drewN n) := m_drewN (Below.refl _ _) n
  refine h1.trans ⟨rfl, rfl, rfl, by simp [Sort.grow], fun k hk => ?_⟩
  simp [Sort.grow, Array.getElem?_append]
  intro h
  omega
theorem s20_new {W W' : World} {bp g n pc j jp : Nat} {x y : Msg} (hb : Below W.heap.size W W') (h : W.cell? ⟨bp, 0, none⟩ = some (.slice (some ⟨g, 0, none⟩) n pc) ∧ W.cell? ⟨g, jp * 4, none⟩ = some (.int .i64 x.f) ∧ W.cell? ⟨g, jp * 4 + 1, none⟩ = some (.int .i64 x.t) ∧ W.cell? ⟨g, jp * 4 + 2, none⟩ = some (.int .i64 x.a) ∧ W.cell? ⟨g, jp * 4 + 3, none⟩ = some (.int .i64 x.v) ∧ W.cell? ⟨g, j * 4, none⟩ = some (.int .i64 y.f) ∧ W.cell? ⟨g, j * 4 + 1, none⟩ = some (.int .i64 y.t) ∧ W.cell? ⟨g, j * 4 + 2, none⟩ = some (.int .i64 y.a) ∧ W.cell? ⟨g, j * 4 + 3, none⟩ = some (.int .i64 y.v)) : W'.cell? ⟨bp, 0, none⟩ = some (.slice (some ⟨g, 0, none⟩) n pc) ∧ W'.cell? ⟨g, jp * 4, none⟩ = some (.int .i64 x.f) ∧ W'.cell? ⟨g, jp * 4 + 1, none⟩ = some (.int .i64 x.t) ∧ W'.cell? ⟨g, jp * 4 + 2, none⟩ = some (.int .i64 x.a) ∧ W'.cell? ⟨g, jp * 4 + 3, none⟩ = some (.int .i64 x.v) ∧ W'.cell? ⟨g, j * 4, none⟩ = some (.int .i64 y.f) ∧ W'.cell? ⟨g, j * 4 + 1, none⟩ = some (.int .i64 y.t) ∧ W'.cell? ⟨g, j * 4 + 2, none⟩ = some (.int .i64 y.a) ∧ W'.cell? ⟨g, j * 4 + 3, none⟩ = some (.int .i64 y.v) := by
  have f := Fr.ofBelow hb (fun _ => False)
  obtain ⟨h0, h1, h2, h3, h4, h5, h6, h7, h8⟩ := h
  exact ⟨fr_cell f (fun h => h) h0, fr_cell f (fun h => h) h1, fr_cell f (fun h => h) h2, fr_cell f (fun h => h) h3, fr_cell f (fun h => h) h4, fr_cell f (fun h => h) h5, fr_cell f (fun h => h) h6, fr_cell f (fun h => h) h7, fr_cell f (fun h => h) h8⟩
theorem then_false {K : Act → World → Prop} {Q' : Exit → Act → World → Prop} : ∀ e a w, Exit.then K (fun _ _ _ => False) e a w → Exit.then K Q' e a w := by
  intro e a w h
  cases e with
  | normal => exact h
  | _ => exact h.elim
set_option linter.unusedSimpArgs false in
set_option maxRecDepth 100000 in
set_option maxHeartbeats 4000000 in
theorem ord_r20 {wr : World} {ds : List Deferred} {bp g n pc j jp : Nat} {x y : Msg} {z0 z1 z2 z3 z4 z5 z6 z7 z8 z10 z11 z12 z14 z15 z16 z17 z18 z19 z20 z21 z22 z23 z24 z25 z26 z27 z28 z29 z30 z31 z32 z33 z34 z35 z36 z37 z38 z39 z40 z41 z42 z43 z44 z45 z46 z47 z48 z49 z50 z51 z52 z53 z54 z55 z56 z57 z58 z59 z60 z61 z62 z63 z64 z65 z66 z67 z68 z69 z70 z71 z72 z73 z74 z75 z76 z77 z78 z79 z80 z81 z82 z83 z84 z85 z86 z87 z88 z89 z90 z91 z92 z93 z94 z95 z96 z97 z98 z99 z100 z101 z102 : Value} {K : Act → World → Prop} {Q' : Exit → Act → World → Prop} (hj : j = jp + 1) (hn : j < n) (hn2 : n ≤ 4398046511104) (hm : mlt y x = false)
    (hS0 : wr.cell? ⟨bp, 0, none⟩ = some (.slice (some ⟨g, 0, none⟩) n pc) ∧ wr.cell? ⟨g, jp * 4, none⟩ = some (.int .i64 x.f) ∧ wr.cell? ⟨g, jp * 4 + 1, none⟩ = some (.int .i64 x.t) ∧ wr.cell? ⟨g, jp * 4 + 2, none⟩ = some (.int .i64 x.a) ∧ wr.cell? ⟨g, jp * 4 + 3, none⟩ = some (.int .i64 x.v) ∧ wr.cell? ⟨g, j * 4, none⟩ = some (.int .i64 y.f) ∧ wr.cell? ⟨g, j * 4 + 1, none⟩ = some (.int .i64 y.t) ∧ wr.cell? ⟨g, j * 4 + 2, none⟩ = some (.int .i64 y.a) ∧ wr.cell? ⟨g, j * 4 + 3, none⟩ = some (.int .i64 y.v))
    (HC : ∀ (wx : World) (u67 u68 u69 u70 u71 u72 u73 u74 u75 u76 u77 u78 u79 u80 u81 u82 u83 u84 u85 u86 u87 u88 : Value), Below wr.heap.size wr wx → K ⟨(List.toArray (z0 :: z1 :: z2 :: z3 :: z4 :: z5 :: z6 :: z7 :: z8 :: (.pointer (some ⟨bp, 0, none⟩)) :: z10 :: z11 :: z12 :: (.int .i64 j) :: z14 :: z15 :: z16 :: z17 :: z18 :: z19 :: z20 :: z21 :: z22 :: z23 :: z24 :: z25 :: z26 :: z27 :: z28 :: z29 :: z30 :: z31 :: z32 :: z33 :: z34 :: z35 :: z36 :: z37 :: z38 :: z39 :: z40 :: z41 :: z42 :: z43 :: z44 :: z45 :: z46 :: z47 :: z48 :: z49 :: z50 :: z51 :: z52 :: z53 :: z54 :: z55 :: z56 :: z57 :: z58 :: z59 :: z60 :: z61 :: z62 :: z63 :: z64 :: z65 :: z66 :: u67 :: u68 :: u69 :: u70 :: u71 :: u72 :: u73 :: u74 :: u75 :: u76 :: u77 :: u78 :: u79 :: u80 :: u81 :: u82 :: u83 :: u84 :: u85 :: u86 :: u87 :: u88 :: (.bool false) :: z90 :: z91 :: z92 :: z93 :: z94 :: z95 :: z96 :: z97 :: z98 :: z99 :: z100 :: z101 :: z102 :: [])), ds⟩ wx) :
    Code.wp Try.prog ((Try.f7.body.bind (regionOfC 20)).getD .skip) (Exit.then K Q') ⟨(List.toArray (z0 :: z1 :: z2 :: z3 :: z4 :: z5 :: z6 :: z7 :: z8 :: (.pointer (some ⟨bp, 0, none⟩)) :: z10 :: z11 :: z12 :: (.int .i64 j) :: z14 :: z15 :: z16 :: z17 :: z18 :: z19 :: z20 :: z21 :: z22 :: z23 :: z24 :: z25 :: z26 :: z27 :: z28 :: z29 :: z30 :: z31 :: z32 :: z33 :: z34 :: z35 :: z36 :: z37 :: z38 :: z39 :: z40 :: z41 :: z42 :: z43 :: z44 :: z45 :: z46 :: z47 :: z48 :: z49 :: z50 :: z51 :: z52 :: z53 :: z54 :: z55 :: z56 :: z57 :: z58 :: z59 :: z60 :: z61 :: z62 :: z63 :: z64 :: z65 :: z66 :: z67 :: z68 :: z69 :: z70 :: z71 :: z72 :: z73 :: z74 :: z75 :: z76 :: z77 :: z78 :: z79 :: z80 :: z81 :: z82 :: z83 :: z84 :: z85 :: z86 :: z87 :: z88 :: z89 :: z90 :: z91 :: z92 :: z93 :: z94 :: z95 :: z96 :: z97 :: z98 :: z99 :: z100 :: z101 :: z102 :: [])), ds⟩ wr := by
  have HH : Hid _ := HC
  clear HC
  refine wp_mono (Q := Exit.then K (fun _ _ _ => False)) ?_ then_false
  conv => arg 2; whnf
  have hbf := hm
  have hcl := cmpM_le hm
  have hsub : (j : Int) - 1 = (jp : Int) := by omega
  have hjp : jp < n := by omega
  have hwr : IntKind.i64.wrap (jp : Int) = (jp : Int) := IntWalk.i64_in _ (by omega)
  clear hj
  refine wp_region_L [] (fun w' => w'.cell? ⟨bp, 0, none⟩ = some (.slice (some ⟨g, 0, none⟩) n pc) ∧ w'.cell? ⟨g, jp * 4, none⟩ = some (.int .i64 x.f) ∧ w'.cell? ⟨g, jp * 4 + 1, none⟩ = some (.int .i64 x.t) ∧ w'.cell? ⟨g, jp * 4 + 2, none⟩ = some (.int .i64 x.a) ∧ w'.cell? ⟨g, jp * 4 + 3, none⟩ = some (.int .i64 x.v) ∧ w'.cell? ⟨g, j * 4, none⟩ = some (.int .i64 y.f) ∧ w'.cell? ⟨g, j * 4 + 1, none⟩ = some (.int .i64 y.t) ∧ w'.cell? ⟨g, j * 4 + 2, none⟩ = some (.int .i64 y.a) ∧ w'.cell? ⟨g, j * 4 + 3, none⟩ = some (.int .i64 y.v)) (by kernel_rfl) ?_
  refine wpAnyL_take (i := 0) 67 (v := .slice (some ⟨g, 0, none⟩) n pc) rfl rfl (by kernel_rfl) (by kernel_rfl) (by kernel_rfl) (by kernel_rfl) (by kernel_rfl) (by kernel_rfl) (fun _ _ _ h => h) hS0 (by rfl) (by intro w' hSw; (try dsimp only at hSw); go_simp <;> with_reducible rfl) ?_
  simp only [Act.put, List.setIfInBounds_toArray, List.set_cons_zero, List.set_cons_succ]
  refine wpAnyL_take (i := 1) 68 (v := .int .i64 j) rfl rfl (by kernel_rfl) (by kernel_rfl) (by kernel_rfl) (by kernel_rfl) (by kernel_rfl) (by kernel_rfl) (fun _ _ _ h => h) hS0 (by rfl) (by intro w' hSw; (try dsimp only at hSw); go_simp <;> with_reducible rfl) ?_
  simp only [Act.put, List.setIfInBounds_toArray, List.set_cons_zero, List.set_cons_succ]
  refine wpAnyL_take (i := 2) 69 (v := .pointer (some ⟨g, j * 4, none⟩)) rfl rfl (by kernel_rfl) (by kernel_rfl) (by kernel_rfl) (by kernel_rfl) (by kernel_rfl) (by kernel_rfl) (fun _ _ _ h => h) hS0 (by rfl) (by intro w' hSw; (try dsimp only at hSw); go_simp <;> with_reducible rfl) ?_
  simp only [Act.put, List.setIfInBounds_toArray, List.set_cons_zero, List.set_cons_succ]
  refine wpAnyL_take (i := 3) 70 (v := .agg #[.int .i64 y.f, .int .i64 y.t, .int .i64 y.a, .int .i64 y.v]) rfl rfl (by kernel_rfl) (by kernel_rfl) (by kernel_rfl) (by kernel_rfl) (by kernel_rfl) (by kernel_rfl) (fun _ _ _ h => h) hS0 (by rfl) (by intro w' hSw; (try dsimp only at hSw); go_simp <;> with_reducible rfl) ?_
  simp only [Act.put, List.setIfInBounds_toArray, List.set_cons_zero, List.set_cons_succ]
  refine wpAnyL_take (i := 4) 71 (v := .slice (some ⟨g, 0, none⟩) n pc) rfl rfl (by kernel_rfl) (by kernel_rfl) (by kernel_rfl) (by kernel_rfl) (by kernel_rfl) (by kernel_rfl) (fun _ _ _ h => h) hS0 (by rfl) (by intro w' hSw; (try dsimp only at hSw); go_simp <;> with_reducible rfl) ?_
  simp only [Act.put, List.setIfInBounds_toArray, List.set_cons_zero, List.set_cons_succ]
  refine wpAnyL_take (i := 5) 72 (v := .int .i64 j) rfl rfl (by kernel_rfl) (by kernel_rfl) (by kernel_rfl) (by kernel_rfl) (by kernel_rfl) (by kernel_rfl) (fun _ _ _ h => h) hS0 (by rfl) (by intro w' hSw; (try dsimp only at hSw); go_simp <;> with_reducible rfl) ?_
  simp only [Act.put, List.setIfInBounds_toArray, List.set_cons_zero, List.set_cons_succ]
  refine wpAnyL_take (i := 6) 73 (v := .int .i64 jp) rfl rfl (by kernel_rfl) (by kernel_rfl) (by kernel_rfl) (by kernel_rfl) (by kernel_rfl) (by kernel_rfl) (fun _ _ _ h => h) hS0 (by rfl) (by intro w' hSw; (try dsimp only at hSw); go_simp <;> with_reducible rfl) ?_
  simp only [Act.put, List.setIfInBounds_toArray, List.set_cons_zero, List.set_cons_succ]
  refine wpAnyL_take (i := 7) 74 (v := .pointer (some ⟨g, jp * 4, none⟩)) rfl rfl (by kernel_rfl) (by kernel_rfl) (by kernel_rfl) (by kernel_rfl) (by kernel_rfl) (by kernel_rfl) (fun _ _ _ h => h) hS0 (by rfl) (by intro w' hSw; (try dsimp only at hSw); go_simp <;> with_reducible rfl) ?_
  simp only [Act.put, List.setIfInBounds_toArray, List.set_cons_zero, List.set_cons_succ]
  refine wpAnyL_take (i := 8) 75 (v := .agg #[.int .i64 x.f, .int .i64 x.t, .int .i64 x.a, .int .i64 x.v]) rfl rfl (by kernel_rfl) (by kernel_rfl) (by kernel_rfl) (by kernel_rfl) (by kernel_rfl) (by kernel_rfl) (fun _ _ _ h => h) hS0 (by rfl) (by intro w' hSw; (try dsimp only at hSw); go_simp <;> with_reducible rfl) ?_
  simp only [Act.put, List.setIfInBounds_toArray, List.set_cons_zero, List.set_cons_succ]
  refine wpAnyL_one (i := 9) (by kernel_rfl) rfl (fun Kc hKc => ?_)
  go_simp
  refine (before_any y x _).mono ?_
  rintro r w1 ⟨rfl, hb1⟩
  rw [hbf]
  have hb1' : Below wr.heap.size wr w1 := b20 hb1
  have hS1 : w1.cell? ⟨bp, 0, none⟩ = some (.slice (some ⟨g, 0, none⟩) n pc) ∧ w1.cell? ⟨g, jp * 4, none⟩ = some (.int .i64 x.f) ∧ w1.cell? ⟨g, jp * 4 + 1, none⟩ = some (.int .i64 x.t) ∧ w1.cell? ⟨g, jp * 4 + 2, none⟩ = some (.int .i64 x.a) ∧ w1.cell? ⟨g, jp * 4 + 3, none⟩ = some (.int .i64 x.v) ∧ w1.cell? ⟨g, j * 4, none⟩ = some (.int .i64 y.f) ∧ w1.cell? ⟨g, j * 4 + 1, none⟩ = some (.int .i64 y.t) ∧ w1.cell? ⟨g, j * 4 + 2, none⟩ = some (.int .i64 y.a) ∧ w1.cell? ⟨g, j * 4 + 3, none⟩ = some (.int .i64 y.v) := s20_new hb1' hS0
  refine hKc.out _ _ (fun _ => hS1) ?_
  clear hKc Kc
  refine wpAnyL_take (i := 10) 77 (v := .bool false) rfl rfl (by kernel_rfl) (by kernel_rfl) (by kernel_rfl) (by kernel_rfl) (by kernel_rfl) (by kernel_rfl) (fun _ _ _ h => h) hS1 (by rfl) (by intro w' hSw; (try dsimp only at hSw); go_simp <;> with_reducible rfl) ?_
  simp only [Act.put, List.setIfInBounds_toArray, List.set_cons_zero, List.set_cons_succ]
  refine wpAnyL_take (i := 11) 78 (v := .slice (some ⟨g, 0, none⟩) n pc) rfl rfl (by kernel_rfl) (by kernel_rfl) (by kernel_rfl) (by kernel_rfl) (by kernel_rfl) (by kernel_rfl) (fun _ _ _ h => h) hS1 (by rfl) (by intro w' hSw; (try dsimp only at hSw); go_simp <;> with_reducible rfl) ?_
  simp only [Act.put, List.setIfInBounds_toArray, List.set_cons_zero, List.set_cons_succ]
  refine wpAnyL_take (i := 12) 79 (v := .int .i64 j) rfl rfl (by kernel_rfl) (by kernel_rfl) (by kernel_rfl) (by kernel_rfl) (by kernel_rfl) (by kernel_rfl) (fun _ _ _ h => h) hS1 (by rfl) (by intro w' hSw; (try dsimp only at hSw); go_simp <;> with_reducible rfl) ?_
  simp only [Act.put, List.setIfInBounds_toArray, List.set_cons_zero, List.set_cons_succ]
  refine wpAnyL_take (i := 13) 80 (v := .int .i64 jp) rfl rfl (by kernel_rfl) (by kernel_rfl) (by kernel_rfl) (by kernel_rfl) (by kernel_rfl) (by kernel_rfl) (fun _ _ _ h => h) hS1 (by rfl) (by intro w' hSw; (try dsimp only at hSw); go_simp <;> with_reducible rfl) ?_
  simp only [Act.put, List.setIfInBounds_toArray, List.set_cons_zero, List.set_cons_succ]
  refine wpAnyL_take (i := 14) 81 (v := .pointer (some ⟨g, jp * 4, none⟩)) rfl rfl (by kernel_rfl) (by kernel_rfl) (by kernel_rfl) (by kernel_rfl) (by kernel_rfl) (by kernel_rfl) (fun _ _ _ h => h) hS1 (by rfl) (by intro w' hSw; (try dsimp only at hSw); go_simp <;> with_reducible rfl) ?_
  simp only [Act.put, List.setIfInBounds_toArray, List.set_cons_zero, List.set_cons_succ]
  refine wpAnyL_take (i := 15) 82 (v := .agg #[.int .i64 x.f, .int .i64 x.t, .int .i64 x.a, .int .i64 x.v]) rfl rfl (by kernel_rfl) (by kernel_rfl) (by kernel_rfl) (by kernel_rfl) (by kernel_rfl) (by kernel_rfl) (fun _ _ _ h => h) hS1 (by rfl) (by intro w' hSw; (try dsimp only at hSw); go_simp <;> with_reducible rfl) ?_
  simp only [Act.put, List.setIfInBounds_toArray, List.set_cons_zero, List.set_cons_succ]
  refine wpAnyL_take (i := 16) 83 (v := .slice (some ⟨g, 0, none⟩) n pc) rfl rfl (by kernel_rfl) (by kernel_rfl) (by kernel_rfl) (by kernel_rfl) (by kernel_rfl) (by kernel_rfl) (fun _ _ _ h => h) hS1 (by rfl) (by intro w' hSw; (try dsimp only at hSw); go_simp <;> with_reducible rfl) ?_
  simp only [Act.put, List.setIfInBounds_toArray, List.set_cons_zero, List.set_cons_succ]
  refine wpAnyL_take (i := 17) 84 (v := .int .i64 j) rfl rfl (by kernel_rfl) (by kernel_rfl) (by kernel_rfl) (by kernel_rfl) (by kernel_rfl) (by kernel_rfl) (fun _ _ _ h => h) hS1 (by rfl) (by intro w' hSw; (try dsimp only at hSw); go_simp <;> with_reducible rfl) ?_
  simp only [Act.put, List.setIfInBounds_toArray, List.set_cons_zero, List.set_cons_succ]
  refine wpAnyL_take (i := 18) 85 (v := .pointer (some ⟨g, j * 4, none⟩)) rfl rfl (by kernel_rfl) (by kernel_rfl) (by kernel_rfl) (by kernel_rfl) (by kernel_rfl) (by kernel_rfl) (fun _ _ _ h => h) hS1 (by rfl) (by intro w' hSw; (try dsimp only at hSw); go_simp <;> with_reducible rfl) ?_
  simp only [Act.put, List.setIfInBounds_toArray, List.set_cons_zero, List.set_cons_succ]
  refine wpAnyL_take (i := 19) 86 (v := .agg #[.int .i64 y.f, .int .i64 y.t, .int .i64 y.a, .int .i64 y.v]) rfl rfl (by kernel_rfl) (by kernel_rfl) (by kernel_rfl) (by kernel_rfl) (by kernel_rfl) (by kernel_rfl) (fun _ _ _ h => h) hS1 (by rfl) (by intro w' hSw; (try dsimp only at hSw); go_simp <;> with_reducible rfl) ?_
  simp only [Act.put, List.setIfInBounds_toArray, List.set_cons_zero, List.set_cons_succ]
  refine wpAnyL_one (i := 20) (by kernel_rfl) rfl (fun Kc hKc => ?_)
  go_simp
  refine (compare_msg x y _).mono ?_
  rintro r w2 ⟨rfl, nq, os, rfl⟩
  have hS2 : (Sort.grow (w1.drewN nq) os).cell? ⟨bp, 0, none⟩ = some (.slice (some ⟨g, 0, none⟩) n pc) ∧ (Sort.grow (w1.drewN nq) os).cell? ⟨g, jp * 4, none⟩ = some (.int .i64 x.f) ∧ (Sort.grow (w1.drewN nq) os).cell? ⟨g, jp * 4 + 1, none⟩ = some (.int .i64 x.t) ∧ (Sort.grow (w1.drewN nq) os).cell? ⟨g, jp * 4 + 2, none⟩ = some (.int .i64 x.a) ∧ (Sort.grow (w1.drewN nq) os).cell? ⟨g, jp * 4 + 3, none⟩ = some (.int .i64 x.v) ∧ (Sort.grow (w1.drewN nq) os).cell? ⟨g, j * 4, none⟩ = some (.int .i64 y.f) ∧ (Sort.grow (w1.drewN nq) os).cell? ⟨g, j * 4 + 1, none⟩ = some (.int .i64 y.t) ∧ (Sort.grow (w1.drewN nq) os).cell? ⟨g, j * 4 + 2, none⟩ = some (.int .i64 y.a) ∧ (Sort.grow (w1.drewN nq) os).cell? ⟨g, j * 4 + 3, none⟩ = some (.int .i64 y.v) := s20_new (grow_below w1 nq os) hS1
  refine hKc.out _ _ (fun _ => hS2) ?_
  clear hKc Kc
  refine wpAnyL_take (i := 21) 88 (v := .bool false) rfl rfl (by kernel_rfl) (by kernel_rfl) (by kernel_rfl) (by kernel_rfl) (by kernel_rfl) (by kernel_rfl) (fun _ _ _ h => h) hS2 (by rfl) (by intro w' hSw; (try dsimp only at hSw); go_simp <;> with_reducible rfl) ?_
  simp only [Act.put, List.setIfInBounds_toArray, List.set_cons_zero, List.set_cons_succ]
  refine wpAnyL_take (i := 22) 89 (v := .bool false) rfl rfl (by kernel_rfl) (by kernel_rfl) (by kernel_rfl) (by kernel_rfl) (by kernel_rfl) (by kernel_rfl) (fun _ _ _ h => h) hS2 (by rfl) (by intro w' hSw; (try dsimp only at hSw); go_simp <;> with_reducible rfl) ?_
  simp only [Act.put, List.setIfInBounds_toArray, List.set_cons_zero, List.set_cons_succ]
  refine wpAnyL_done (by kernel_rfl) ?_ _
  exact HH.out _ _ _ _ _ _ _ _ _ _ _ _ _ _ _ _ _ _ _ _ _ _ _ (hb1'.trans ((grow_below w1 nq os).mono hb1'.size))
set_option linter.unusedSimpArgs false in
set_option maxRecDepth 100000 in
set_option maxHeartbeats 4000000 in
theorem ord_r22 {wr : World} {ds : List Deferred} {bp bq n pc qc : Nat} {po qo : Option Addr} {L : List Msg} {z0 z1 z2 z3 z4 z5 z6 z8 z11 z12 z13 z14 z15 z16 z17 z18 z19 z20 z21 z22 z23 z24 z25 z26 z27 z28 z29 z30 z31 z32 z33 z34 z35 z36 z37 z38 z39 z40 z41 z42 z43 z44 z45 z46 z47 z48 z49 z50 z51 z52 z53 z54 z55 z56 z57 z58 z59 z60 z61 z62 z63 z64 z65 z66 z67 z68 z69 z70 z71 z72 z73 z74 z75 z76 z77 z78 z79 z80 z81 z82 z83 z84 z85 z86 z87 z88 z89 z90 z91 z92 z93 z94 z95 z96 z97 z98 z99 z100 z101 z102 : Value} {K : Act → World → Prop} {Q' : Exit → Act → World → Prop} (HRef : Hid (∀ W, Below wr.heap.size wr W → Calls Try.prog 37 #[.slice qo n qc] W fun r w' => ∃ g c, r = .returned (.slice (some ⟨g, 0, none⟩) n c) ∧ Mo w' 66 (.slice (some ⟨g, 0, none⟩) n c) L ∧ Below W.heap.size W w')) (HSame : Hid (∀ W g c, Below wr.heap.size wr W → Mo W 66 (.slice (some ⟨g, 0, none⟩) n c) L → Calls Try.prog 32 #[.slice po n pc, .slice (some ⟨g, 0, none⟩) n c] W fun r w' => r = .returned (.bool true) ∧ Below W.heap.size W w'))
    (hS0 : wr.cell? ⟨bp, 0, none⟩ = some (.slice po n pc) ∧ wr.cell? ⟨bq, 0, none⟩ = some (.slice qo n qc))
    (HC : ∀ (wx : World) (u90 u91 u92 u93 u94 u95 u96 u97 u98 u99 u100 u101 u102 : Value), Below wr.heap.size wr wx → K ⟨(List.toArray (z0 :: z1 :: z2 :: z3 :: (.bool true) :: z5 :: z6 :: (.int .i64 n) :: z8 :: (.pointer (some ⟨bp, 0, none⟩)) :: (.pointer (some ⟨bq, 0, none⟩)) :: z11 :: z12 :: z13 :: z14 :: z15 :: z16 :: z17 :: z18 :: z19 :: z20 :: z21 :: z22 :: z23 :: z24 :: z25 :: z26 :: z27 :: z28 :: z29 :: z30 :: z31 :: z32 :: z33 :: z34 :: z35 :: z36 :: z37 :: z38 :: z39 :: z40 :: z41 :: z42 :: z43 :: z44 :: z45 :: z46 :: z47 :: z48 :: z49 :: z50 :: z51 :: z52 :: z53 :: z54 :: z55 :: z56 :: z57 :: z58 :: z59 :: z60 :: z61 :: z62 :: z63 :: z64 :: z65 :: z66 :: z67 :: z68 :: z69 :: z70 :: z71 :: z72 :: z73 :: z74 :: z75 :: z76 :: z77 :: z78 :: z79 :: z80 :: z81 :: z82 :: z83 :: z84 :: z85 :: z86 :: z87 :: z88 :: z89 :: u90 :: u91 :: u92 :: u93 :: u94 :: u95 :: u96 :: u97 :: u98 :: u99 :: u100 :: u101 :: u102 :: [])), ds⟩ wx) :
    Code.wp Try.prog ((Try.f7.body.bind (regionOfC 22)).getD .skip) (Exit.then K Q') ⟨(List.toArray (z0 :: z1 :: z2 :: z3 :: z4 :: z5 :: z6 :: (.int .i64 n) :: z8 :: (.pointer (some ⟨bp, 0, none⟩)) :: (.pointer (some ⟨bq, 0, none⟩)) :: z11 :: z12 :: z13 :: z14 :: z15 :: z16 :: z17 :: z18 :: z19 :: z20 :: z21 :: z22 :: z23 :: z24 :: z25 :: z26 :: z27 :: z28 :: z29 :: z30 :: z31 :: z32 :: z33 :: z34 :: z35 :: z36 :: z37 :: z38 :: z39 :: z40 :: z41 :: z42 :: z43 :: z44 :: z45 :: z46 :: z47 :: z48 :: z49 :: z50 :: z51 :: z52 :: z53 :: z54 :: z55 :: z56 :: z57 :: z58 :: z59 :: z60 :: z61 :: z62 :: z63 :: z64 :: z65 :: z66 :: z67 :: z68 :: z69 :: z70 :: z71 :: z72 :: z73 :: z74 :: z75 :: z76 :: z77 :: z78 :: z79 :: z80 :: z81 :: z82 :: z83 :: z84 :: z85 :: z86 :: z87 :: z88 :: z89 :: z90 :: z91 :: z92 :: z93 :: z94 :: z95 :: z96 :: z97 :: z98 :: z99 :: z100 :: z101 :: z102 :: [])), ds⟩ wr := by
  have HH : Hid _ := HC
  clear HC
  refine wp_mono (Q := Exit.then K (fun _ _ _ => False)) ?_ then_false
  conv => arg 2; whnf
  refine wp_region_L [] (fun w' => w'.cell? ⟨bp, 0, none⟩ = some (.slice po n pc) ∧ w'.cell? ⟨bq, 0, none⟩ = some (.slice qo n qc)) (by kernel_rfl) ?_
  refine wpAnyL_one (i := 0) (by kernel_rfl) rfl (fun Kc hKc => ?_)
  go_simp
  refine (awake5 _).mono ?_
  rintro r w1 ⟨rfl, hb1⟩
  have hb1' : Below wr.heap.size wr w1 := b20 hb1
  have hS1 : w1.cell? ⟨bp, 0, none⟩ = some (.slice po n pc) ∧ w1.cell? ⟨bq, 0, none⟩ = some (.slice qo n qc) := ⟨fr_cell (Fr.ofBelow hb1' (fun _ => False)) (fun h => h) hS0.1, fr_cell (Fr.ofBelow hb1' (fun _ => False)) (fun h => h) hS0.2⟩
  refine hKc.out _ _ (fun _ => hS1) ?_
  clear hKc Kc
  refine wpAnyL_take (i := 1) 91 (v := .bool true) rfl rfl (by kernel_rfl) (by kernel_rfl) (by kernel_rfl) (by kernel_rfl) (by kernel_rfl) (by kernel_rfl) (fun _ _ _ h => h) hS1 (by rfl) (by intro w' hSw; (try dsimp only at hSw); go_simp <;> with_reducible rfl) ?_
  simp only [Act.put, List.setIfInBounds_toArray, List.set_cons_zero, List.set_cons_succ]
  refine wpAnyL_take (i := 2) 92 (v := .slice po n pc) rfl rfl (by kernel_rfl) (by kernel_rfl) (by kernel_rfl) (by kernel_rfl) (by kernel_rfl) (by kernel_rfl) (fun _ _ _ h => h) hS1 (by rfl) (by intro w' hSw; (try dsimp only at hSw); go_simp <;> with_reducible rfl) ?_
  simp only [Act.put, List.setIfInBounds_toArray, List.set_cons_zero, List.set_cons_succ]
  refine wpAnyL_take (i := 3) 93 (v := .int .i64 n) rfl rfl (by kernel_rfl) (by kernel_rfl) (by kernel_rfl) (by kernel_rfl) (by kernel_rfl) (by kernel_rfl) (fun _ _ _ h => h) hS1 (by rfl) (by intro w' hSw; (try dsimp only at hSw); go_simp <;> with_reducible rfl) ?_
  simp only [Act.put, List.setIfInBounds_toArray, List.set_cons_zero, List.set_cons_succ]
  refine wpAnyL_take (i := 4) 94 (v := .int .i64 n) rfl rfl (by kernel_rfl) (by kernel_rfl) (by kernel_rfl) (by kernel_rfl) (by kernel_rfl) (by kernel_rfl) (fun _ _ _ h => h) hS1 (by rfl) (by intro w' hSw; (try dsimp only at hSw); go_simp <;> with_reducible rfl) ?_
  simp only [Act.put, List.setIfInBounds_toArray, List.set_cons_zero, List.set_cons_succ]
  refine wpAnyL_take (i := 5) 95 (v := .bool true) rfl rfl (by kernel_rfl) (by kernel_rfl) (by kernel_rfl) (by kernel_rfl) (by kernel_rfl) (by kernel_rfl) (fun _ _ _ h => h) hS1 (by rfl) (by intro w' hSw; (try dsimp only at hSw); go_simp <;> with_reducible rfl) ?_
  simp only [Act.put, List.setIfInBounds_toArray, List.set_cons_zero, List.set_cons_succ]
  refine wpAnyL_take (i := 6) 96 (v := .bool true) rfl rfl (by kernel_rfl) (by kernel_rfl) (by kernel_rfl) (by kernel_rfl) (by kernel_rfl) (by kernel_rfl) (fun _ _ _ h => h) hS1 (by rfl) (by intro w' hSw; (try dsimp only at hSw); go_simp <;> with_reducible rfl) ?_
  simp only [Act.put, List.setIfInBounds_toArray, List.set_cons_zero, List.set_cons_succ]
  refine wpAnyL_take (i := 7) 97 (v := .bool true) rfl rfl (by kernel_rfl) (by kernel_rfl) (by kernel_rfl) (by kernel_rfl) (by kernel_rfl) (by kernel_rfl) (fun _ _ _ h => h) hS1 (by rfl) (by intro w' hSw; (try dsimp only at hSw); go_simp <;> with_reducible rfl) ?_
  simp only [Act.put, List.setIfInBounds_toArray, List.set_cons_zero, List.set_cons_succ]
  refine wpAnyL_take (i := 8) 98 (v := .slice po n pc) rfl rfl (by kernel_rfl) (by kernel_rfl) (by kernel_rfl) (by kernel_rfl) (by kernel_rfl) (by kernel_rfl) (fun _ _ _ h => h) hS1 (by rfl) (by intro w' hSw; (try dsimp only at hSw); go_simp <;> with_reducible rfl) ?_
  simp only [Act.put, List.setIfInBounds_toArray, List.set_cons_zero, List.set_cons_succ]
  refine wpAnyL_take (i := 9) 99 (v := .slice qo n qc) rfl rfl (by kernel_rfl) (by kernel_rfl) (by kernel_rfl) (by kernel_rfl) (by kernel_rfl) (by kernel_rfl) (fun _ _ _ h => h) hS1 (by rfl) (by intro w' hSw; (try dsimp only at hSw); go_simp <;> with_reducible rfl) ?_
  simp only [Act.put, List.setIfInBounds_toArray, List.set_cons_zero, List.set_cons_succ]
  refine wpAnyL_one (i := 10) (by kernel_rfl) rfl (fun Kc hKc => ?_)
  go_simp
  refine (HRef.out _ hb1').mono ?_
  rintro r w2 ⟨g, c, rfl, hM2, hb2⟩
  have hS2 : w2.cell? ⟨bp, 0, none⟩ = some (.slice po n pc) ∧ w2.cell? ⟨bq, 0, none⟩ = some (.slice qo n qc) := ⟨fr_cell (Fr.ofBelow hb2 (fun _ => False)) (fun h => h) hS1.1, fr_cell (Fr.ofBelow hb2 (fun _ => False)) (fun h => h) hS1.2⟩
  have hb2' : Below wr.heap.size wr w2 := hb1'.trans (hb2.mono hb1'.size)
  refine hKc.out _ _ (fun _ => hS2) ?_
  clear hKc Kc
  refine wpAnyL_one (i := 11) (by kernel_rfl) rfl (fun Kc hKc => ?_)
  go_simp
  refine (HSame.out _ g c hb2' hM2).mono ?_
  rintro r w3 ⟨rfl, hb3⟩
  have hS3 : w3.cell? ⟨bp, 0, none⟩ = some (.slice po n pc) ∧ w3.cell? ⟨bq, 0, none⟩ = some (.slice qo n qc) := ⟨fr_cell (Fr.ofBelow hb3 (fun _ => False)) (fun h => h) hS2.1, fr_cell (Fr.ofBelow hb3 (fun _ => False)) (fun h => h) hS2.2⟩
  refine hKc.out _ _ (fun _ => hS3) ?_
  clear hKc Kc
  refine wpAnyL_take (i := 12) 102 (v := .bool true) rfl rfl (by kernel_rfl) (by kernel_rfl) (by kernel_rfl) (by kernel_rfl) (by kernel_rfl) (by kernel_rfl) (fun _ _ _ h => h) hS3 (by rfl) (by intro w' hSw; (try dsimp only at hSw); go_simp <;> with_reducible rfl) ?_
  simp only [Act.put, List.setIfInBounds_toArray, List.set_cons_zero, List.set_cons_succ]
  refine wpAnyL_take (i := 13) 4 (v := .bool true) rfl rfl (by kernel_rfl) (by kernel_rfl) (by kernel_rfl) (by kernel_rfl) (by kernel_rfl) (by kernel_rfl) (fun _ _ _ h => h) hS3 (by rfl) (by intro w' hSw; (try dsimp only at hSw); go_simp <;> with_reducible rfl) ?_
  simp only [Act.put, List.setIfInBounds_toArray, List.set_cons_zero, List.set_cons_succ]
  refine wpAnyL_done (by kernel_rfl) ?_ _
  exact HH.out _ _ _ _ _ _ _ _ _ _ _ _ _ _ (hb2'.trans (hb3.mono hb2'.size))
end Go.Proofs.Ytfajkfngjfhkoaa
