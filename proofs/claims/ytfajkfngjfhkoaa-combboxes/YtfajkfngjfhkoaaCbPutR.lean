/- The document's Put. -/
import Derived.Test.YtfajkfngjfhkoaaCbRefs
import Derived.Test.YtfajkfngjfhkoaaOrdL
import Derived.Deep.RegionLaw
namespace Go.Proofs.Ytfajkfngjfhkoaa
open Go.RowKit
theorem p_step_append_own {P : Program} {ops : Array Oper} {o : Oper} {a : Act} {w : World} {K : Act → World → Prop} {Q : Exit → Act → World → Prop} {E : Prop}
    (hg : o.guard = none) (s x : Operand) (t : TypeId) (hop : o.op = .call { callee := .builtin .append, args := #[s, x], argTypes := #[t, t] })
    (base : Nat) (e : TypeId) (i : TypeInfo) (z : Value) (size bytes : Nat) (ht : P.underlying t = some (.slice e)) (hi : P.info? e = some i) (hz : i.zero = some z)
    (hsize : i.size = size) (hby : i.bytes = bytes) (hzs : z.cells.size = size) (hsz : 0 < size)
    (v : Value) (n : Nat) (xs : List Value) (hs : a.eval s = v) (hown : w.ownsRow base e size v n xs)
    (ad : Addr) (m c : Nat) (news : List Value) (hx : a.eval x = .slice (some ad) m c) (hl : news.length = m * size) (hnews : ∀ j u, news[j]? = some u → w.cell? (ad.add j) = some u) (h1 : ∀ u ∈ news, u.oneCell' = true)
    (h63 : n + m ≤ maxLen) (hbytes : (n + m) * bytes ≤ 140737488355328) (hbase : base ≤ w.heap.size)
    (h : ∀ v' w', w'.ownsRow base e size v' (n + m) (xs ++ news) → w.grownBy w' v.ownBlock → (v'.ownBlock = v.ownBlock ∨ v'.ownBlock = some w.heap.size) → K (a.put o.dst v') w') :
    if Region.wanted o (yielded ops a.tmps) = true then Oper.wp P o a w K Q else E := by
  have hw : Region.wanted o (yielded ops a.tmps) = true := by simp [Region.wanted, hg]
  rw [if_pos hw]
  obtain ⟨v', w', hr, h2, h3, _, h5⟩ := run_append_own_at (P := P) w base t o.type e i z size bytes ht hi hz hsize hby hzs hsz v n xs hown ad m c news hl hnews h1 h63 hbytes hbase
  unfold Oper.wp execOp
  simp only [hop, resolve, invoke, builtin, Sem.run_bind, Sem.run_pure, Result.andThen_ok, List.map_toArray, List.map_cons, List.map_nil, hs, hx, hr]
  exact h v' w' h2 h3 h5
theorem b32 {x : Nat} (h : x ≤ 4398046511104) : x ≤ maxLen ∧ x * 32 ≤ 140737488355328 := ⟨by unfold maxLen; omega, by omega⟩
/-- A region of a function's code. -/
def regionOfP (n : Nat) : Code → Option Code
  | .region m ops d => if m = n then some (.region m ops d) else none
  | .loop c => regionOfP n c
  | .seq a b => match regionOfP n a with
    | some c => some c
    | none => regionOfP n b
  | .block _ c => regionOfP n c
  | .scope c => regionOfP n c
  | .cond _ a b => match regionOfP n a with
    | some c => some c
    | none => regionOfP n b
  | _ => none
theorem then_falseP {K : Act → World → Prop} {Q' : Exit → Act → World → Prop} : ∀ e a w, Exit.then K (fun _ _ _ => False) e a w → Exit.then K Q' e a w := by
  intro e a w h
  cases e with
  | normal => exact h
  | _ => exact h.elim
theorem flat_drop : ∀ (L : List Msg) (k : Nat), (L.drop k).flatMap msgCells = (L.flatMap msgCells).drop (k * 4)
  | L, 0 => by simp
  | [], k + 1 => by simp
  | m :: L, k + 1 => by
    rw [List.drop_succ_cons, flat_drop L k, List.flatMap_cons, show (k + 1) * 4 = k * 4 + 4 by omega]
    rfl
theorem flat_take : ∀ (L : List Msg) (k : Nat), (L.take k).flatMap msgCells = (L.flatMap msgCells).take (k * 4)
  | L, 0 => by simp
  | [], k + 1 => by simp
  | m :: L, k + 1 => by
    rw [List.take_succ_cons, List.flatMap_cons, List.flatMap_cons, flat_take L k, show (k + 1) * 4 = k * 4 + 4 by omega]
    rfl
theorem flat_one (L : List Msg) : ∀ u ∈ L.flatMap msgCells, u.oneCell' = true := by
  intro u hu
  obtain ⟨m, _, hm⟩ := List.mem_flatMap.1 hu
  exact msgOne m u hm
theorem mo_take {W : World} {t : TypeId} {g n c : Nat} {L : List Msg} (h : Mo W t (.slice (some ⟨g, 0, none⟩) n c) L) (k : Nat) : ∀ j u, ((L.take k).flatMap msgCells)[j]? = some u → W.cell? ((⟨g, 0, none⟩ : Addr).add j) = some u := by
  intro j u hu
  rw [flat_take, List.getElem?_take] at hu
  split at hu
  · exact World.ownsRow.cells h (g := g) rfl j u hu
  · cases hu
theorem mo_drop {W : World} {t : TypeId} {g n c k o : Nat} {L : List Msg} (h : Mo W t (.slice (some ⟨g, 0, none⟩) n c) L) (hL : L.length = n) (hnc : n ≤ c) (ho : (c = k ∧ o = 0) ∨ (¬ c = k ∧ o = k * 4)) : ∀ j u, ((L.drop k).flatMap msgCells)[j]? = some u → W.cell? ((⟨g, o, none⟩ : Addr).add j) = some u := by
  intro j u hu
  rcases ho with ⟨rfl, rfl⟩ | ⟨_, rfl⟩
  · rw [List.drop_of_length_le (by omega)] at hu
    simp at hu
  · rw [flat_drop, List.getElem?_drop] at hu
    have := World.ownsRow.cells h (g := g) rfl (k * 4 + j) u hu
    by_cases e : k * 4 + j = 0
    · have e1 : k * 4 = 0 := by omega
      have e2 : j = 0 := by omega
      rw [e1]
      subst e2
      rw [e1] at this
      simpa [Addr.add] using this
    · by_cases e2 : j = 0
      · subst e2
        simp only [Nat.add_zero] at this e
        simpa [Addr.add, e] using this
      · simpa [Addr.add, e, e2] using this
theorem app_new {w0 W W' : World} {v v' : Value} (hb : Below w0.heap.size w0 W) (hv : ∀ k, v.ownBlock = some k → w0.heap.size ≤ k) (gr : W.grownBy W' v.ownBlock) (at_ : v'.ownBlock = v.ownBlock ∨ v'.ownBlock = some W.heap.size) : Below w0.heap.size w0 W' ∧ ∀ k, v'.ownBlock = some k → w0.heap.size ≤ k := by
  refine ⟨hb.trans ((Fr.grown (S := fun k => v.ownBlock = some k) gr (fun k hk => hk)).below hb.size (fun k hk => hv k hk)), fun k hk => ?_⟩
  rcases at_ with e | e
  · exact hv k (e ▸ hk)
  · rw [e] at hk; cases hk; exact hb.size
theorem own_step {w0 W : World} {v v' : Value} (hv : ∀ k, v.ownBlock = some k → w0.heap.size ≤ k) (hb : Below w0.heap.size w0 W) (at_ : v'.ownBlock = v.ownBlock ∨ v'.ownBlock = some W.heap.size) : ∀ k, v'.ownBlock = some k → w0.heap.size ≤ k := by
  intro k hk
  rcases at_ with e | e
  · exact hv k (e ▸ hk)
  · rw [e] at hk; cases hk; exact hb.size
theorem s4_new {W W' : World} {q : Nat} {m : Msg} (hb : Below W.heap.size W W') (h : W.cell? ⟨q, 0, none⟩ = some (.int .i64 m.f) ∧ W.cell? ⟨q, 1, none⟩ = some (.int .i64 m.t) ∧ W.cell? ⟨q, 2, none⟩ = some (.int .i64 m.a) ∧ W.cell? ⟨q, 3, none⟩ = some (.int .i64 m.v)) : W'.cell? ⟨q, 0, none⟩ = some (.int .i64 m.f) ∧ W'.cell? ⟨q, 1, none⟩ = some (.int .i64 m.t) ∧ W'.cell? ⟨q, 2, none⟩ = some (.int .i64 m.a) ∧ W'.cell? ⟨q, 3, none⟩ = some (.int .i64 m.v) := by
  have f := Fr.ofBelow hb (fun _ => False)
  exact ⟨fr_cell f (fun h => h) h.1, fr_cell f (fun h => h) h.2.1, fr_cell f (fun h => h) h.2.2.1, fr_cell f (fun h => h) h.2.2.2⟩
theorem put_own {W : World} {v : Value} {L : List Msg} {m : Msg} {k n : Nat} (hk : k ≤ n) (hL : L.length = n) (h : W.ownsRow 0 66 4 v (0 + k + 1 + (n - k)) ([] ++ (L.take k).flatMap msgCells ++ [.int .i64 m.f, .int .i64 m.t, .int .i64 m.a, .int .i64 m.v] ++ (L.drop k).flatMap msgCells)) :
    ∃ g c, v = .slice (some ⟨g, 0, none⟩) (n + 1) c ∧ Mo W 66 (.slice (some ⟨g, 0, none⟩) (n + 1) c) (L.take k ++ [m] ++ L.drop k) := by
  have e : 0 + k + 1 + (n - k) = n + 1 := by omega
  rw [e] at h
  have e2 : (L.take k ++ [m] ++ L.drop k).flatMap msgCells = [] ++ (L.take k).flatMap msgCells ++ [.int .i64 m.f, .int .i64 m.t, .int .i64 m.a, .int .i64 m.v] ++ (L.drop k).flatMap msgCells := by
    rw [List.flatMap_append, List.flatMap_append]; simp [msgCells]
  have e3 : (L.take k ++ [m] ++ L.drop k).length = n + 1 := by simp; omega
  have hM : Mo W 66 v (L.take k ++ [m] ++ L.drop k) := by unfold Mo; rw [e2, e3]; exact h
  rcases h.2 with ⟨_, h2⟩ | ⟨g, c, cur, rfl, _⟩
  · omega
  · exact ⟨g, c, rfl, hM⟩
set_option linter.unusedSimpArgs false in
set_option maxRecDepth 100000 in
set_option maxHeartbeats 1000000 in
theorem put_r2 {wr : World} {ds : List Deferred} {q g n c j jp : Nat} {m y : Msg} {z1 z2 z4 z6 z7 z8 z9 z10 z11 z12 z13 z14 z15 z16 z17 z18 z19 z20 z21 z22 z23 z24 z25 z26 z27 z28 z29 z30 z31 z32 : Value} {K : Act → World → Prop} {Q' : Exit → Act → World → Prop} (hj : j = jp + 1) (hn : j ≤ n) (hn2 : n ≤ 4398046511104)
    (hS0 : wr.cell? ⟨q, 0, none⟩ = some (.int .i64 m.f) ∧ wr.cell? ⟨q, 1, none⟩ = some (.int .i64 m.t) ∧ wr.cell? ⟨q, 2, none⟩ = some (.int .i64 m.a) ∧ wr.cell? ⟨q, 3, none⟩ = some (.int .i64 m.v) ∧ wr.cell? ⟨g, jp * 4, none⟩ = some (.int .i64 y.f) ∧ wr.cell? ⟨g, jp * 4 + 1, none⟩ = some (.int .i64 y.t) ∧ wr.cell? ⟨g, jp * 4 + 2, none⟩ = some (.int .i64 y.a) ∧ wr.cell? ⟨g, jp * 4 + 3, none⟩ = some (.int .i64 y.v))
    (HC : ∀ (wx : World) (u8 u9 u10 u11 u12 u13 u14 u15 u16 u17 : Value), Below wr.heap.size wr wx → K ⟨(List.toArray ((.slice (some ⟨g, 0, none⟩) n c) :: z1 :: z2 :: (.pointer (some ⟨q, 0, none⟩)) :: z4 :: (.int .i64 j) :: z6 :: z7 :: u8 :: u9 :: u10 :: u11 :: u12 :: u13 :: u14 :: u15 :: u16 :: u17 :: (.bool (mlt m y)) :: z19 :: z20 :: z21 :: z22 :: z23 :: z24 :: z25 :: z26 :: z27 :: z28 :: z29 :: z30 :: z31 :: z32 :: [])), ds⟩ wx) :
    Code.wp Try.prog ((Try.f28.body.bind (regionOfP 2)).getD .skip) (Exit.then K Q') ⟨(List.toArray ((.slice (some ⟨g, 0, none⟩) n c) :: z1 :: z2 :: (.pointer (some ⟨q, 0, none⟩)) :: z4 :: (.int .i64 j) :: z6 :: z7 :: z8 :: z9 :: z10 :: z11 :: z12 :: z13 :: z14 :: z15 :: z16 :: z17 :: z18 :: z19 :: z20 :: z21 :: z22 :: z23 :: z24 :: z25 :: z26 :: z27 :: z28 :: z29 :: z30 :: z31 :: z32 :: [])), ds⟩ wr := by
  have HH : Hid _ := HC
  clear HC
  refine wp_mono (Q := Exit.then K (fun _ _ _ => False)) ?_ then_falseP
  conv => arg 2; whnf
  have hgt : 0 < j := by omega
  have hsub : (j : Int) - 1 = (jp : Int) := by omega
  have hjp : jp < n := by omega
  have hwr : IntKind.i64.wrap (jp : Int) = (jp : Int) := IntWalk.i64_in _ (by omega)
  clear hj
  refine wp_region_L [] (fun w' => w'.cell? ⟨q, 0, none⟩ = some (.int .i64 m.f) ∧ w'.cell? ⟨q, 1, none⟩ = some (.int .i64 m.t) ∧ w'.cell? ⟨q, 2, none⟩ = some (.int .i64 m.a) ∧ w'.cell? ⟨q, 3, none⟩ = some (.int .i64 m.v) ∧ w'.cell? ⟨g, jp * 4, none⟩ = some (.int .i64 y.f) ∧ w'.cell? ⟨g, jp * 4 + 1, none⟩ = some (.int .i64 y.t) ∧ w'.cell? ⟨g, jp * 4 + 2, none⟩ = some (.int .i64 y.a) ∧ w'.cell? ⟨g, jp * 4 + 3, none⟩ = some (.int .i64 y.v)) (by kernel_rfl) ?_
  refine wpAnyL_take (i := 0) 8 (v := .int .i64 j) rfl rfl (by kernel_rfl) (by kernel_rfl) (by kernel_rfl) (by kernel_rfl) (by kernel_rfl) (by kernel_rfl) (fun _ _ _ h => h) hS0 (by rfl) (by intro w' hSw; (try dsimp only at hSw); go_simp <;> with_reducible rfl) ?_
  simp only [Act.put, List.setIfInBounds_toArray, List.set_cons_zero, List.set_cons_succ]
  refine wpAnyL_take (i := 1) 9 (v := .bool true) rfl rfl (by kernel_rfl) (by kernel_rfl) (by kernel_rfl) (by kernel_rfl) (by kernel_rfl) (by kernel_rfl) (fun _ _ _ h => h) hS0 (by rfl) (by intro w' hSw; (try dsimp only at hSw); go_simp <;> with_reducible rfl) ?_
  simp only [Act.put, List.setIfInBounds_toArray, List.set_cons_zero, List.set_cons_succ]
  refine wpAnyL_take (i := 2) 10 (v := .bool true) rfl rfl (by kernel_rfl) (by kernel_rfl) (by kernel_rfl) (by kernel_rfl) (by kernel_rfl) (by kernel_rfl) (fun _ _ _ h => h) hS0 (by rfl) (by intro w' hSw; (try dsimp only at hSw); go_simp <;> with_reducible rfl) ?_
  simp only [Act.put, List.setIfInBounds_toArray, List.set_cons_zero, List.set_cons_succ]
  refine wpAnyL_take (i := 3) 11 (v := .agg #[.int .i64 m.f, .int .i64 m.t, .int .i64 m.a, .int .i64 m.v]) rfl rfl (by kernel_rfl) (by kernel_rfl) (by kernel_rfl) (by kernel_rfl) (by kernel_rfl) (by kernel_rfl) (fun _ _ _ h => h) hS0 (by rfl) (by intro w' hSw; (try dsimp only at hSw); go_simp <;> with_reducible rfl) ?_
  simp only [Act.put, List.setIfInBounds_toArray, List.set_cons_zero, List.set_cons_succ]
  refine wpAnyL_take (i := 4) 12 (v := .slice (some ⟨g, 0, none⟩) n c) rfl rfl (by kernel_rfl) (by kernel_rfl) (by kernel_rfl) (by kernel_rfl) (by kernel_rfl) (by kernel_rfl) (fun _ _ _ h => h) hS0 (by rfl) (by intro w' hSw; (try dsimp only at hSw); go_simp <;> with_reducible rfl) ?_
  simp only [Act.put, List.setIfInBounds_toArray, List.set_cons_zero, List.set_cons_succ]
  refine wpAnyL_take (i := 5) 13 (v := .int .i64 j) rfl rfl (by kernel_rfl) (by kernel_rfl) (by kernel_rfl) (by kernel_rfl) (by kernel_rfl) (by kernel_rfl) (fun _ _ _ h => h) hS0 (by rfl) (by intro w' hSw; (try dsimp only at hSw); go_simp <;> with_reducible rfl) ?_
  simp only [Act.put, List.setIfInBounds_toArray, List.set_cons_zero, List.set_cons_succ]
  refine wpAnyL_take (i := 6) 14 (v := .int .i64 jp) rfl rfl (by kernel_rfl) (by kernel_rfl) (by kernel_rfl) (by kernel_rfl) (by kernel_rfl) (by kernel_rfl) (fun _ _ _ h => h) hS0 (by rfl) (by intro w' hSw; (try dsimp only at hSw); go_simp <;> with_reducible rfl) ?_
  simp only [Act.put, List.setIfInBounds_toArray, List.set_cons_zero, List.set_cons_succ]
  refine wpAnyL_take (i := 7) 15 (v := .pointer (some ⟨g, jp * 4, none⟩)) rfl rfl (by kernel_rfl) (by kernel_rfl) (by kernel_rfl) (by kernel_rfl) (by kernel_rfl) (by kernel_rfl) (fun _ _ _ h => h) hS0 (by rfl) (by intro w' hSw; (try dsimp only at hSw); go_simp <;> with_reducible rfl) ?_
  simp only [Act.put, List.setIfInBounds_toArray, List.set_cons_zero, List.set_cons_succ]
  refine wpAnyL_take (i := 8) 16 (v := .agg #[.int .i64 y.f, .int .i64 y.t, .int .i64 y.a, .int .i64 y.v]) rfl rfl (by kernel_rfl) (by kernel_rfl) (by kernel_rfl) (by kernel_rfl) (by kernel_rfl) (by kernel_rfl) (fun _ _ _ h => h) hS0 (by rfl) (by intro w' hSw; (try dsimp only at hSw); go_simp <;> with_reducible rfl) ?_
  simp only [Act.put, List.setIfInBounds_toArray, List.set_cons_zero, List.set_cons_succ]
  refine wpAnyL_one (i := 9) (by kernel_rfl) rfl (fun Kc hKc => ?_)
  go_simp
  refine (before_any m y _).mono ?_
  rintro r w1 ⟨rfl, hb1⟩
  have hb1' : Below wr.heap.size wr w1 := ((Below.refl wr.heap.size wr).drew).trans hb1
  have hS1 : w1.cell? ⟨q, 0, none⟩ = some (.int .i64 m.f) ∧ w1.cell? ⟨q, 1, none⟩ = some (.int .i64 m.t) ∧ w1.cell? ⟨q, 2, none⟩ = some (.int .i64 m.a) ∧ w1.cell? ⟨q, 3, none⟩ = some (.int .i64 m.v) ∧ w1.cell? ⟨g, jp * 4, none⟩ = some (.int .i64 y.f) ∧ w1.cell? ⟨g, jp * 4 + 1, none⟩ = some (.int .i64 y.t) ∧ w1.cell? ⟨g, jp * 4 + 2, none⟩ = some (.int .i64 y.a) ∧ w1.cell? ⟨g, jp * 4 + 3, none⟩ = some (.int .i64 y.v) := by
    have f := Fr.ofBelow hb1' (fun _ => False)
    obtain ⟨h0, h1, h2, h3, h4, h5, h6, h7⟩ := hS0
    exact ⟨fr_cell f (fun h => h) h0, fr_cell f (fun h => h) h1, fr_cell f (fun h => h) h2, fr_cell f (fun h => h) h3, fr_cell f (fun h => h) h4, fr_cell f (fun h => h) h5, fr_cell f (fun h => h) h6, fr_cell f (fun h => h) h7⟩
  refine hKc.out _ _ (fun _ => hS1) ?_
  clear hKc Kc
  refine wpAnyL_take (i := 10) 18 (v := .bool (mlt m y)) rfl rfl (by kernel_rfl) (by kernel_rfl) (by kernel_rfl) (by kernel_rfl) (by kernel_rfl) (by kernel_rfl) (fun _ _ _ h => h) hS1 (by rfl) (by intro w' hSw; (try dsimp only at hSw); go_simp <;> with_reducible rfl) ?_
  simp only [Act.put, List.setIfInBounds_toArray, List.set_cons_zero, List.set_cons_succ]
  refine wpAnyL_done (by kernel_rfl) ?_ _
  exact HH.out _ _ _ _ _ _ _ _ _ _ _ hb1'
set_option linter.unusedSimpArgs false in
set_option maxRecDepth 100000 in
set_option maxHeartbeats 1000000 in
theorem put_r4 {w0 wr : World} {ds : List Deferred} {q g n c k o : Nat} {m : Msg} {L : List Msg} {z1 z2 z4 z6 z7 z8 z9 z10 z11 z12 z13 z14 z15 z16 z17 z18 z19 z20 z21 z22 z23 z24 z25 z26 z27 z28 z29 z30 z31 z32 : Value} {K : Act → World → Prop} {Q' : Exit → Act → World → Prop} (hk : k ≤ n) (hL : L.length = n) (hn2 : n ≤ 4398046511000) (hnc : n ≤ c) (ho : (c = k ∧ o = 0) ∨ (¬ c = k ∧ o = k * 4)) (hW : Below w0.heap.size w0 wr)
    (hS0 : wr.cell? ⟨q, 0, none⟩ = some (.int .i64 m.f) ∧ wr.cell? ⟨q, 1, none⟩ = some (.int .i64 m.t) ∧ wr.cell? ⟨q, 2, none⟩ = some (.int .i64 m.a) ∧ wr.cell? ⟨q, 3, none⟩ = some (.int .i64 m.v)) (hM : Mo wr 66 (.slice (some ⟨g, 0, none⟩) n c) L)
    (HC : ∀ (wx : World) (g' c' : Nat) (u21 u22 u23 u24 u25 u26 u27 u28 u29 u30 u31 : Value), Below w0.heap.size w0 wx → w0.heap.size ≤ g' → Mo wx 66 (.slice (some ⟨g', 0, none⟩) (n + 1) c') (L.take k ++ [m] ++ L.drop k) → K ⟨(List.toArray ((.slice (some ⟨g, 0, none⟩) n c) :: z1 :: z2 :: (.pointer (some ⟨q, 0, none⟩)) :: (.slice (some ⟨g', 0, none⟩) (n + 1) c') :: (.int .i64 k) :: z6 :: z7 :: z8 :: z9 :: z10 :: z11 :: z12 :: z13 :: z14 :: z15 :: z16 :: z17 :: z18 :: z19 :: z20 :: u21 :: u22 :: u23 :: u24 :: u25 :: u26 :: u27 :: u28 :: u29 :: u30 :: u31 :: (.slice (some ⟨g', 0, none⟩) (n + 1) c') :: [])), ds⟩ wx) :
    Code.wp Try.prog ((Try.f28.body.bind (regionOfP 4)).getD .skip) (Exit.then K Q') ⟨(List.toArray ((.slice (some ⟨g, 0, none⟩) n c) :: z1 :: z2 :: (.pointer (some ⟨q, 0, none⟩)) :: z4 :: (.int .i64 k) :: z6 :: z7 :: z8 :: z9 :: z10 :: z11 :: z12 :: z13 :: z14 :: z15 :: z16 :: z17 :: z18 :: z19 :: z20 :: z21 :: z22 :: z23 :: z24 :: z25 :: z26 :: z27 :: z28 :: z29 :: z30 :: z31 :: z32 :: [])), ds⟩ wr := by
  have HH : Hid _ := HC
  clear HC
  obtain ⟨i0, hi, hz0, hz1, hz2⟩ := info_parts infoR
  refine wp_mono (Q := Exit.then K (fun _ _ _ => False)) ?_ then_falseP
  conv => arg 2; whnf
  have hB0 : Below w0.heap.size w0 wr.drew := hW.drew
  have hck0 : ¬ c < k := by omega
  obtain ⟨qa1, qa2⟩ := b32 (x := 0 + k) (by omega)
  obtain ⟨qb1, qb2⟩ := b32 (x := 0 + k + 1) (by omega)
  obtain ⟨qc1, qc2⟩ := b32 (x := 0 + k + 1 + (n - k)) (by omega)
  have hnk0 : ¬ n < k := by omega
  have hbd : Below wr.heap.size wr wr.drew := (Below.refl wr.heap.size wr).drew
  have HM : Hid _ := hM
  clear hM
  refine wp_region_L [] (fun w' => w'.cell? ⟨q, 0, none⟩ = some (.int .i64 m.f) ∧ w'.cell? ⟨q, 1, none⟩ = some (.int .i64 m.t) ∧ w'.cell? ⟨q, 2, none⟩ = some (.int .i64 m.a) ∧ w'.cell? ⟨q, 3, none⟩ = some (.int .i64 m.v)) (by kernel_rfl) ?_
  refine wpAnyL_take (i := 1) 22 (v := .slice (some ⟨g, 0, none⟩) n c) rfl rfl (by kernel_rfl) (by kernel_rfl) (by kernel_rfl) (by kernel_rfl) (by kernel_rfl) (by kernel_rfl) (fun _ _ _ h => h) hS0 (by rfl) (by intro w' hSw; (try dsimp only at hSw); go_simp <;> with_reducible rfl) ?_
  simp only [Act.put, List.setIfInBounds_toArray, List.set_cons_zero, List.set_cons_succ]
  refine wpAnyL_take (i := 2) 23 (v := .int .i64 k) rfl rfl (by kernel_rfl) (by kernel_rfl) (by kernel_rfl) (by kernel_rfl) (by kernel_rfl) (by kernel_rfl) (fun _ _ _ h => h) hS0 (by rfl) (by intro w' hSw; (try dsimp only at hSw); go_simp <;> with_reducible rfl) ?_
  simp only [Act.put, List.setIfInBounds_toArray, List.set_cons_zero, List.set_cons_succ]
  refine wpAnyL_take (i := 3) 24 (v := .slice (some ⟨g, 0, none⟩) k c) rfl rfl (by kernel_rfl) (by kernel_rfl) (by kernel_rfl) (by kernel_rfl) (by kernel_rfl) (by kernel_rfl) (fun _ _ _ h => h) hS0 (by rfl) (by intro w' hSw; (try dsimp only at hSw); go_simp <;> with_reducible rfl) ?_
  simp only [Act.put, List.setIfInBounds_toArray, List.set_cons_zero, List.set_cons_succ]
  refine wpAnyL_take (i := 5) 26 (v := .agg #[.int .i64 m.f, .int .i64 m.t, .int .i64 m.a, .int .i64 m.v]) rfl rfl (by kernel_rfl) (by kernel_rfl) (by kernel_rfl) (by kernel_rfl) (by kernel_rfl) (by kernel_rfl) (fun _ _ _ h => h) hS0 (by rfl) (by intro w' hSw; (try dsimp only at hSw); go_simp <;> with_reducible rfl) ?_
  simp only [Act.put, List.setIfInBounds_toArray, List.set_cons_zero, List.set_cons_succ]
  refine wpAnyL_take (i := 8) 29 (v := .slice (some ⟨g, 0, none⟩) n c) rfl rfl (by kernel_rfl) (by kernel_rfl) (by kernel_rfl) (by kernel_rfl) (by kernel_rfl) (by kernel_rfl) (fun _ _ _ h => h) hS0 (by rfl) (by intro w' hSw; (try dsimp only at hSw); go_simp <;> with_reducible rfl) ?_
  simp only [Act.put, List.setIfInBounds_toArray, List.set_cons_zero, List.set_cons_succ]
  refine wpAnyL_take (i := 9) 30 (v := .int .i64 k) rfl rfl (by kernel_rfl) (by kernel_rfl) (by kernel_rfl) (by kernel_rfl) (by kernel_rfl) (by kernel_rfl) (fun _ _ _ h => h) hS0 (by rfl) (by intro w' hSw; (try dsimp only at hSw); go_simp <;> with_reducible rfl) ?_
  simp only [Act.put, List.setIfInBounds_toArray, List.set_cons_zero, List.set_cons_succ]
  refine wpAnyL_take (i := 10) 31 (v := .slice (some ⟨g, o, none⟩) (n - k) (c - k)) rfl rfl (by kernel_rfl) (by kernel_rfl) (by kernel_rfl) (by kernel_rfl) (by kernel_rfl) (by kernel_rfl) (fun _ _ _ h => h) hS0 (by rfl) (by intro w' hSw; (try dsimp only at hSw); (rcases ho with ⟨h1, rfl⟩ | ⟨h1, rfl⟩ <;> go_simp <;> with_reducible rfl)) ?_
  simp only [Act.put, List.setIfInBounds_toArray, List.set_cons_zero, List.set_cons_succ]
  refine wpAnyL_two (i := 0) (j := 6) (by kernel_rfl) rfl rfl ?_ ?_
  · intro Kb hKb
    go_simp
    have B1 : Below w0.heap.size w0 (wr.drew.alloc (.cells #[] 66)) := hB0.alloc hB0.size _
    have D1 : Below wr.heap.size wr (wr.drew.alloc (.cells #[] 66)) := hbd.alloc (Nat.le_refl _) _
    have own0 : (wr.drew.alloc (.cells #[] 66)).ownsRow 0 66 4 (.slice (some ⟨wr.heap.size, 0, none⟩) 0 0) 0 [] := World.ownsRow_made wr.drew #[] 0 (Nat.zero_le _) (by decide) (by simp)
    refine hKb.out _ _ (fun _ => s4_new D1 hS0) ?_
    clear hKb Kb
    refine wpAnyL_two (i := 4) (j := 6) (by kernel_rfl) rfl rfl ?_ ?_
    · intro Ka hKa
      refine p_step_append_own rfl (.tmp 21) (.tmp 24) 57 rfl 0 66 i0 (.agg #[.int .i64 0, .int .i64 0, .int .i64 0, .int .i64 0]) 4 32 Try.underlying57 hi hz0 hz1 hz2 rfl (by decide) (.slice (some ⟨wr.heap.size, 0, none⟩) 0 0) 0 [] (by simp [Act.eval]) own0 ⟨g, 0, none⟩ k c ((L.take k).flatMap msgCells) (by simp [Act.eval]) (by rw [msg_len, List.length_take]; omega) (mo_take (Mo.new HM.out D1) k) (flat_one _) qa1 qa2 (Nat.zero_le _) ?_
      intro v1 w1 own1 gr1 at1
      obtain ⟨B2, V1⟩ := app_new B1 (v := .slice (some ⟨wr.heap.size, 0, none⟩) 0 0) (fun k hk => by simp only [Value.ownBlock, Option.some.injEq] at hk; have := hW.size; omega) gr1 at1
      have D2 : Below wr.heap.size wr w1 := D1.trans ((Fr.grown (S := fun k => k = wr.heap.size) gr1 (fun k hk => by cases hk; rfl)).below D1.size (fun k hk => by omega))
      refine hKa.out _ _ (fun _ => s4_new D2 hS0) ?_
      clear hKa Ka
      try simp only [Act.put, List.setIfInBounds_toArray, List.set_cons_zero, List.set_cons_succ]
      refine wpAnyL_one (i := 6) (by kernel_rfl) rfl (fun Kb hKb => ?_)
      go_simp
      have BW : Below w0.heap.size w0 (w1.alloc (.cells #[.int .i64 m.f, .int .i64 m.t, .int .i64 m.a, .int .i64 m.v] 66)) := B2.alloc B2.size _
      have DW : Below wr.heap.size wr (w1.alloc (.cells #[.int .i64 m.f, .int .i64 m.t, .int .i64 m.a, .int .i64 m.v] 66)) := D2.alloc D2.size _
      have VD : ∀ k, v1.ownBlock = some k → wr.heap.size ≤ k := own_step (fun k hk => by cases hk; exact Nat.le_refl _) D1 at1
      have ownW := World.ownsRow.alloc own1 (.cells #[.int .i64 m.f, .int .i64 m.t, .int .i64 m.a, .int .i64 m.v] 66)
      refine hKb.out _ _ (fun _ => s4_new DW hS0) ?_
      clear hKb Kb
      try simp only [Act.put, List.setIfInBounds_toArray, List.set_cons_zero, List.set_cons_succ]
      refine wpAnyL_one (i := 7) (by kernel_rfl) rfl (fun Ka hKa => ?_)
      refine p_step_append_own rfl (.tmp 25) (.tmp 27) 57 rfl 0 66 i0 (.agg #[.int .i64 0, .int .i64 0, .int .i64 0, .int .i64 0]) 4 32 Try.underlying57 hi hz0 hz1 hz2 rfl (by decide) v1 (0 + k) ([] ++ (L.take k).flatMap msgCells) (by simp [Act.eval]) ownW ⟨w1.heap.size, 0, none⟩ 1 1 [.int .i64 m.f, .int .i64 m.t, .int .i64 m.a, .int .i64 m.v] (by simp [Act.eval]) rfl (m_four (heap_alloc_new w1 (.cells #[.int .i64 m.f, .int .i64 m.t, .int .i64 m.a, .int .i64 m.v] 66))) (msgOne m) qb1 qb2 (Nat.zero_le _) ?_
      intro v2 w2 own2 gr2 at2
      obtain ⟨B3, V2⟩ := app_new BW V1 gr2 at2
      have D3 : Below wr.heap.size wr w2 := DW.trans ((Fr.grown (S := fun k => v1.ownBlock = some k) gr2 (fun k hk => hk)).below DW.size (fun k hk => VD k hk))
      have VD2 : ∀ k, v2.ownBlock = some k → wr.heap.size ≤ k := own_step VD DW at2
      refine hKa.out _ _ (fun _ => s4_new D3 hS0) ?_
      clear hKa Ka
      try simp only [Act.put, List.setIfInBounds_toArray, List.set_cons_zero, List.set_cons_succ]
      refine wpAnyL_one (i := 11) (by kernel_rfl) rfl (fun Ka hKa => ?_)
      refine p_step_append_own rfl (.tmp 28) (.tmp 31) 57 rfl 0 66 i0 (.agg #[.int .i64 0, .int .i64 0, .int .i64 0, .int .i64 0]) 4 32 Try.underlying57 hi hz0 hz1 hz2 rfl (by decide) v2 (0 + k + 1) ([] ++ (L.take k).flatMap msgCells ++ [.int .i64 m.f, .int .i64 m.t, .int .i64 m.a, .int .i64 m.v]) (by simp [Act.eval]) own2 ⟨g, o, none⟩ (n - k) (c - k) ((L.drop k).flatMap msgCells) (by simp [Act.eval]) (by rw [msg_len, List.length_drop]; omega) (mo_drop (Mo.new HM.out D3) hL hnc ho) (flat_one _) qc1 qc2 (Nat.zero_le _) ?_
      intro v3 w3 own3 gr3 at3
      obtain ⟨B4, V3⟩ := app_new B3 V2 gr3 at3
      have D4 : Below wr.heap.size wr w3 := D3.trans ((Fr.grown (S := fun k => v2.ownBlock = some k) gr3 (fun k hk => hk)).below D3.size (fun k hk => VD2 k hk))
      refine hKa.out _ _ (fun _ => s4_new D4 hS0) ?_
      clear hKa Ka
      obtain ⟨g', c', rfl, hMo⟩ := put_own hk hL own3
      try simp only [Act.put, List.setIfInBounds_toArray, List.set_cons_zero, List.set_cons_succ]
      refine wpAnyL_one (i := 12) (by kernel_rfl) rfl (fun Ka hKa => ?_)
      go_simp
      refine hKa.out _ _ (fun _ => s4_new D4 hS0) ?_
      clear hKa Ka
      refine wpAnyL_done (by kernel_rfl) ?_ _
      exact HH.out _ _ _ _ _ _ _ _ _ _ _ _ _ _ B4 (V3 _ rfl) hMo
    · intro Kb hKb
      go_simp
      have B1' : Below w0.heap.size w0 ((wr.drew.alloc (.cells #[] 66)).alloc (.cells #[.int .i64 m.f, .int .i64 m.t, .int .i64 m.a, .int .i64 m.v] 66)) := B1.alloc B1.size _
      have D1' : Below wr.heap.size wr ((wr.drew.alloc (.cells #[] 66)).alloc (.cells #[.int .i64 m.f, .int .i64 m.t, .int .i64 m.a, .int .i64 m.v] 66)) := D1.alloc D1.size _
      have nM : ((wr.drew.alloc (.cells #[] 66)).alloc (.cells #[.int .i64 m.f, .int .i64 m.t, .int .i64 m.a, .int .i64 m.v] 66)).heap[wr.heap.size + 1]? = some (.cells #[.int .i64 m.f, .int .i64 m.t, .int .i64 m.a, .int .i64 m.v] 66 (0, 0)) := by have := heap_alloc_new (wr.drew.alloc (.cells #[] 66)) (.cells #[.int .i64 m.f, .int .i64 m.t, .int .i64 m.a, .int .i64 m.v] 66); rw [World.size_alloc] at this; exact this
      replace own0 := World.ownsRow.alloc own0 (.cells #[.int .i64 m.f, .int .i64 m.t, .int .i64 m.a, .int .i64 m.v] 66)
      refine hKb.out _ _ (fun _ => s4_new D1' hS0) ?_
      clear hKb Kb B1 D1
      have B1 := B1'
      have D1 := D1'
      clear B1' D1'
      refine wpAnyL_one (i := 4) (by kernel_rfl) rfl (fun Ka hKa => ?_)
      refine p_step_append_own rfl (.tmp 21) (.tmp 24) 57 rfl 0 66 i0 (.agg #[.int .i64 0, .int .i64 0, .int .i64 0, .int .i64 0]) 4 32 Try.underlying57 hi hz0 hz1 hz2 rfl (by decide) (.slice (some ⟨wr.heap.size, 0, none⟩) 0 0) 0 [] (by simp [Act.eval]) own0 ⟨g, 0, none⟩ k c ((L.take k).flatMap msgCells) (by simp [Act.eval]) (by rw [msg_len, List.length_take]; omega) (mo_take (Mo.new HM.out D1) k) (flat_one _) qa1 qa2 (Nat.zero_le _) ?_
      intro v1 w1 own1 gr1 at1
      obtain ⟨B2, V1⟩ := app_new B1 (v := .slice (some ⟨wr.heap.size, 0, none⟩) 0 0) (fun k hk => by simp only [Value.ownBlock, Option.some.injEq] at hk; have := hW.size; omega) gr1 at1
      have D2 : Below wr.heap.size wr w1 := D1.trans ((Fr.grown (S := fun k => k = wr.heap.size) gr1 (fun k hk => by cases hk; rfl)).below D1.size (fun k hk => by omega))
      refine hKa.out _ _ (fun _ => s4_new D2 hS0) ?_
      clear hKa Ka
      try simp only [Act.put, List.setIfInBounds_toArray, List.set_cons_zero, List.set_cons_succ]
      have BW := B2
      have DW := D2
      have ownW := own1
      have VD : ∀ k, v1.ownBlock = some k → wr.heap.size ≤ k := own_step (fun k hk => by cases hk; exact Nat.le_refl _) D1 at1
      have nM1 := (gr1.block _ (m_lt nM) (fun e => by simp only [Value.ownBlock, Option.some.injEq] at e; omega)).trans nM
      refine wpAnyL_one (i := 7) (by kernel_rfl) rfl (fun Ka hKa => ?_)
      refine p_step_append_own rfl (.tmp 25) (.tmp 27) 57 rfl 0 66 i0 (.agg #[.int .i64 0, .int .i64 0, .int .i64 0, .int .i64 0]) 4 32 Try.underlying57 hi hz0 hz1 hz2 rfl (by decide) v1 (0 + k) ([] ++ (L.take k).flatMap msgCells) (by simp [Act.eval]) ownW ⟨wr.heap.size + 1, 0, none⟩ 1 1 [.int .i64 m.f, .int .i64 m.t, .int .i64 m.a, .int .i64 m.v] (by simp [Act.eval]) rfl (m_four nM1) (msgOne m) qb1 qb2 (Nat.zero_le _) ?_
      intro v2 w2 own2 gr2 at2
      obtain ⟨B3, V2⟩ := app_new BW V1 gr2 at2
      have D3 : Below wr.heap.size wr w2 := DW.trans ((Fr.grown (S := fun k => v1.ownBlock = some k) gr2 (fun k hk => hk)).below DW.size (fun k hk => VD k hk))
      have VD2 : ∀ k, v2.ownBlock = some k → wr.heap.size ≤ k := own_step VD DW at2
      refine hKa.out _ _ (fun _ => s4_new D3 hS0) ?_
      clear hKa Ka
      try simp only [Act.put, List.setIfInBounds_toArray, List.set_cons_zero, List.set_cons_succ]
      refine wpAnyL_one (i := 11) (by kernel_rfl) rfl (fun Ka hKa => ?_)
      refine p_step_append_own rfl (.tmp 28) (.tmp 31) 57 rfl 0 66 i0 (.agg #[.int .i64 0, .int .i64 0, .int .i64 0, .int .i64 0]) 4 32 Try.underlying57 hi hz0 hz1 hz2 rfl (by decide) v2 (0 + k + 1) ([] ++ (L.take k).flatMap msgCells ++ [.int .i64 m.f, .int .i64 m.t, .int .i64 m.a, .int .i64 m.v]) (by simp [Act.eval]) own2 ⟨g, o, none⟩ (n - k) (c - k) ((L.drop k).flatMap msgCells) (by simp [Act.eval]) (by rw [msg_len, List.length_drop]; omega) (mo_drop (Mo.new HM.out D3) hL hnc ho) (flat_one _) qc1 qc2 (Nat.zero_le _) ?_
      intro v3 w3 own3 gr3 at3
      obtain ⟨B4, V3⟩ := app_new B3 V2 gr3 at3
      have D4 : Below wr.heap.size wr w3 := D3.trans ((Fr.grown (S := fun k => v2.ownBlock = some k) gr3 (fun k hk => hk)).below D3.size (fun k hk => VD2 k hk))
      refine hKa.out _ _ (fun _ => s4_new D4 hS0) ?_
      clear hKa Ka
      obtain ⟨g', c', rfl, hMo⟩ := put_own hk hL own3
      try simp only [Act.put, List.setIfInBounds_toArray, List.set_cons_zero, List.set_cons_succ]
      refine wpAnyL_one (i := 12) (by kernel_rfl) rfl (fun Ka hKa => ?_)
      go_simp
      refine hKa.out _ _ (fun _ => s4_new D4 hS0) ?_
      clear hKa Ka
      refine wpAnyL_done (by kernel_rfl) ?_ _
      exact HH.out _ _ _ _ _ _ _ _ _ _ _ _ _ _ B4 (V3 _ rfl) hMo
  · intro Kb hKb
    go_simp
    have B0' : Below w0.heap.size w0 (wr.drew.alloc (.cells #[.int .i64 m.f, .int .i64 m.t, .int .i64 m.a, .int .i64 m.v] 66)) := hB0.alloc hB0.size _
    have D0' : Below wr.heap.size wr (wr.drew.alloc (.cells #[.int .i64 m.f, .int .i64 m.t, .int .i64 m.a, .int .i64 m.v] 66)) := hbd.alloc (Nat.le_refl _) _
    refine hKb.out _ _ (fun _ => s4_new D0' hS0) ?_
    clear hKb Kb
    refine wpAnyL_one (i := 0) (by kernel_rfl) rfl (fun Kb hKb => ?_)
    go_simp
    have B1 : Below w0.heap.size w0 ((wr.drew.alloc (.cells #[.int .i64 m.f, .int .i64 m.t, .int .i64 m.a, .int .i64 m.v] 66)).alloc (.cells #[] 66)) := B0'.alloc B0'.size _
    have D1 : Below wr.heap.size wr ((wr.drew.alloc (.cells #[.int .i64 m.f, .int .i64 m.t, .int .i64 m.a, .int .i64 m.v] 66)).alloc (.cells #[] 66)) := D0'.alloc D0'.size _
    have nM : ((wr.drew.alloc (.cells #[.int .i64 m.f, .int .i64 m.t, .int .i64 m.a, .int .i64 m.v] 66)).alloc (.cells #[] 66)).heap[wr.heap.size]? = some (.cells #[.int .i64 m.f, .int .i64 m.t, .int .i64 m.a, .int .i64 m.v] 66 (0, 0)) := (Below.heap_alloc (wr.drew.alloc (.cells #[.int .i64 m.f, .int .i64 m.t, .int .i64 m.a, .int .i64 m.v] 66)) (.cells #[] 66) _ (by rw [World.size_alloc]; exact Nat.lt_succ_self _)).trans (heap_alloc_new wr.drew (.cells #[.int .i64 m.f, .int .i64 m.t, .int .i64 m.a, .int .i64 m.v] 66))
    have own0 : ((wr.drew.alloc (.cells #[.int .i64 m.f, .int .i64 m.t, .int .i64 m.a, .int .i64 m.v] 66)).alloc (.cells #[] 66)).ownsRow 0 66 4 (.slice (some ⟨wr.heap.size + 1, 0, none⟩) 0 0) 0 [] := by have := World.ownsRow_made (e := 66) (base := 0) (size := 4) (wr.drew.alloc (.cells #[.int .i64 m.f, .int .i64 m.t, .int .i64 m.a, .int .i64 m.v] 66)) #[] 0 (Nat.zero_le _) (by decide) (by simp); rw [World.size_alloc] at this; exact this
    refine hKb.out _ _ (fun _ => s4_new D1 hS0) ?_
    clear hKb Kb
    refine wpAnyL_one (i := 4) (by kernel_rfl) rfl (fun Ka hKa => ?_)
    refine p_step_append_own rfl (.tmp 21) (.tmp 24) 57 rfl 0 66 i0 (.agg #[.int .i64 0, .int .i64 0, .int .i64 0, .int .i64 0]) 4 32 Try.underlying57 hi hz0 hz1 hz2 rfl (by decide) (.slice (some ⟨wr.heap.size + 1, 0, none⟩) 0 0) 0 [] (by simp [Act.eval]) own0 ⟨g, 0, none⟩ k c ((L.take k).flatMap msgCells) (by simp [Act.eval]) (by rw [msg_len, List.length_take]; omega) (mo_take (Mo.new HM.out D1) k) (flat_one _) qa1 qa2 (Nat.zero_le _) ?_
    intro v1 w1 own1 gr1 at1
    obtain ⟨B2, V1⟩ := app_new B1 (v := .slice (some ⟨wr.heap.size + 1, 0, none⟩) 0 0) (fun k hk => by simp only [Value.ownBlock, Option.some.injEq] at hk; have := hW.size; omega) gr1 at1
    have D2 : Below wr.heap.size wr w1 := D1.trans ((Fr.grown (S := fun k => k = wr.heap.size + 1) gr1 (fun k hk => by cases hk; rfl)).below D1.size (fun k hk => by omega))
    refine hKa.out _ _ (fun _ => s4_new D2 hS0) ?_
    clear hKa Ka
    try simp only [Act.put, List.setIfInBounds_toArray, List.set_cons_zero, List.set_cons_succ]
    have BW := B2
    have DW := D2
    have ownW := own1
    have VD : ∀ k, v1.ownBlock = some k → wr.heap.size ≤ k := own_step (fun k hk => by cases hk; exact Nat.le_succ _) D1 at1
    have nM1 := (gr1.block _ (m_lt nM) (fun e => by simp only [Value.ownBlock, Option.some.injEq] at e; omega)).trans nM
    refine wpAnyL_one (i := 7) (by kernel_rfl) rfl (fun Ka hKa => ?_)
    refine p_step_append_own rfl (.tmp 25) (.tmp 27) 57 rfl 0 66 i0 (.agg #[.int .i64 0, .int .i64 0, .int .i64 0, .int .i64 0]) 4 32 Try.underlying57 hi hz0 hz1 hz2 rfl (by decide) v1 (0 + k) ([] ++ (L.take k).flatMap msgCells) (by simp [Act.eval]) ownW ⟨wr.heap.size, 0, none⟩ 1 1 [.int .i64 m.f, .int .i64 m.t, .int .i64 m.a, .int .i64 m.v] (by simp [Act.eval]) rfl (m_four nM1) (msgOne m) qb1 qb2 (Nat.zero_le _) ?_
    intro v2 w2 own2 gr2 at2
    obtain ⟨B3, V2⟩ := app_new BW V1 gr2 at2
    have D3 : Below wr.heap.size wr w2 := DW.trans ((Fr.grown (S := fun k => v1.ownBlock = some k) gr2 (fun k hk => hk)).below DW.size (fun k hk => VD k hk))
    have VD2 : ∀ k, v2.ownBlock = some k → wr.heap.size ≤ k := own_step VD DW at2
    refine hKa.out _ _ (fun _ => s4_new D3 hS0) ?_
    clear hKa Ka
    try simp only [Act.put, List.setIfInBounds_toArray, List.set_cons_zero, List.set_cons_succ]
    refine wpAnyL_one (i := 11) (by kernel_rfl) rfl (fun Ka hKa => ?_)
    refine p_step_append_own rfl (.tmp 28) (.tmp 31) 57 rfl 0 66 i0 (.agg #[.int .i64 0, .int .i64 0, .int .i64 0, .int .i64 0]) 4 32 Try.underlying57 hi hz0 hz1 hz2 rfl (by decide) v2 (0 + k + 1) ([] ++ (L.take k).flatMap msgCells ++ [.int .i64 m.f, .int .i64 m.t, .int .i64 m.a, .int .i64 m.v]) (by simp [Act.eval]) own2 ⟨g, o, none⟩ (n - k) (c - k) ((L.drop k).flatMap msgCells) (by simp [Act.eval]) (by rw [msg_len, List.length_drop]; omega) (mo_drop (Mo.new HM.out D3) hL hnc ho) (flat_one _) qc1 qc2 (Nat.zero_le _) ?_
    intro v3 w3 own3 gr3 at3
    obtain ⟨B4, V3⟩ := app_new B3 V2 gr3 at3
    have D4 : Below wr.heap.size wr w3 := D3.trans ((Fr.grown (S := fun k => v2.ownBlock = some k) gr3 (fun k hk => hk)).below D3.size (fun k hk => VD2 k hk))
    refine hKa.out _ _ (fun _ => s4_new D4 hS0) ?_
    clear hKa Ka
    obtain ⟨g', c', rfl, hMo⟩ := put_own hk hL own3
    try simp only [Act.put, List.setIfInBounds_toArray, List.set_cons_zero, List.set_cons_succ]
    refine wpAnyL_one (i := 12) (by kernel_rfl) rfl (fun Ka hKa => ?_)
    go_simp
    refine hKa.out _ _ (fun _ => s4_new D4 hS0) ?_
    clear hKa Ka
    refine wpAnyL_done (by kernel_rfl) ?_ _
    exact HH.out _ _ _ _ _ _ _ _ _ _ _ _ _ _ B4 (V3 _ rfl) hMo
set_option maxRecDepth 100000 in
set_option maxHeartbeats 1000000 in
theorem putR_any {w : World} {g c : Nat} (L : List Msg) (m : Msg) (hM : Mo w 66 (.slice (some ⟨g, 0, none⟩) L.length c) L) (hl : L.length ≤ 4398046511000) :
    Calls Try.prog 28 #[.slice (some ⟨g, 0, none⟩) L.length c, .agg #[.int .i64 m.f, .int .i64 m.t, .int .i64 m.a, .int .i64 m.v]] w fun r w' => ∃ g' c', r = .returned (.slice (some ⟨g', 0, none⟩) (L.length + 1) c') ∧ w.heap.size ≤ g' ∧ ∃ k, Mo w' 66 (.slice (some ⟨g', 0, none⟩) (L.length + 1) c') (L.take k ++ m :: L.drop k) ∧ k ≤ L.length ∧ (∀ j (h : j < L.length), k ≤ j → mlt m L[j] = true) ∧ (0 < k → ∀ h : k - 1 < L.length, mlt m L[k - 1] = false) ∧ Below w.heap.size w w' := by
  have hnc : L.length ≤ c := by
    rcases hM.2 with ⟨h1, _⟩ | ⟨g', c', cur, h1, _, _, h2, _⟩
    · cases h1
    · cases h1; exact h2
  have HM : Hid _ := hM
  have HC : Hid (∀ W, Below w.heap.size w W → ∀ j (hj : j < L.length), W.cell? ⟨g, j * 4, none⟩ = some (.int .i64 L[j].f) ∧ W.cell? ⟨g, j * 4 + 1, none⟩ = some (.int .i64 L[j].t) ∧ W.cell? ⟨g, j * 4 + 2, none⟩ = some (.int .i64 L[j].a) ∧ W.cell? ⟨g, j * 4 + 3, none⟩ = some (.int .i64 L[j].v)) := fun W hb j hj => by
    obtain ⟨b, off, e, _, hc⟩ := Mo.at_ (Mo.new HM.out hb) (by omega)
    cases e
    simpa using hc j hj
  have e1 := heap_alloc_new w (.cells #[.int .i64 m.f, .int .i64 m.t, .int .i64 m.a, .int .i64 m.v] 66)
  have HE : Hid _ := e1
  clear hM e1
  go_enter Try.func28, Try.ntmps28
  go_wp2
  generalize hW : World.alloc _ _ = W
  rw [hW] at HE
  have hBW : Below w.heap.size w W := by rw [← hW]; exact (Below.refl _ w).alloc (Nat.le_refl _) _
  have hszW : W.heap.size = w.heap.size + 1 := by rw [← hW]; simp
  clear hW
  go_loopw [5] (fun i wr => ∃ k : Nat, k ≤ L.length ∧ i = .int .i64 k ∧ Hid (∀ j (h : j < L.length), k ≤ j → mlt m L[j] = true) ∧ Below W.heap.size W wr) (fun i _ => (intOf i).toNat)
  case atStart => exact ⟨L.length, Nat.le_refl _, rfl, (fun j h h' => absurd h (by omega) : ∀ j (h : j < L.length), L.length ≤ j → mlt m L[j] = true), Below.refl _ _⟩
  case round =>
    obtain ⟨k, hk, rfl, HA, hb⟩ := hrel
    have hB : Below w.heap.size w wr := hBW.trans (hb.mono (by omega))
    have hS := m_cells ((hb.block _ (m_lt HE.out)).trans HE.out)
    have HB : Hid _ := hB
    have HW : Hid _ := hb
    have HS : Hid _ := hS
    clear hb hB hS
    by_cases hpos : 0 < k
    · obtain ⟨jp, hjp⟩ : ∃ jp, k = jp + 1 := ⟨k - 1, by omega⟩
      have hcell := HC.out wr HB.out jp (by omega)
      obtain ⟨y, hy⟩ : ∃ y, y = L[jp]'(by omega) := ⟨_, rfl⟩
      rw [← hy] at hcell
      have HY : Hid _ := hy
      have HCe : Hid _ := hcell
      clear hy hcell
      go_upto_region 2 with fail
      refine put_r2 (m := m) (y := y) (jp := jp) hjp hk (by omega) ⟨HS.out.1, HS.out.2.1, HS.out.2.2.1, HS.out.2.2.2, HCe.out.1, HCe.out.2.1, HCe.out.2.2.1, HCe.out.2.2.2⟩ ?_
      intro wt u8 u9 u10 u11 u12 u13 u14 u15 u16 u17 hbt
      have HT : Hid _ := HW.out.trans (hbt.mono HW.out.size)
      have HT2 : Hid _ := HB.out.trans (hbt.mono HB.out.size)
      have HBt : Hid _ := hbt
      clear hbt
      cases hml : mlt m y
      · obtain ⟨o, ho⟩ : ∃ o, (c = k ∧ o = 0) ∨ (¬ c = k ∧ o = k * 4) := by
          by_cases e : c = k
          · exact ⟨0, .inl ⟨e, rfl⟩⟩
          · exact ⟨k * 4, .inr ⟨e, rfl⟩⟩
        go_upto_region 4 with fail
        refine put_r4 (L := L) (w0 := w) (m := m) hk rfl hl hnc ho HT2.out (s4_new HBt.out HS.out) (Mo.new HM.out HT2.out) ?_
        intro wx g' c' u21 u22 u23 u24 u25 u26 u27 u28 u29 u30 u31 hB4 hg' hMo
        have HMo : Hid (Mo wx 66 (.slice (some ⟨g', 0, none⟩) (L.length + 1) c') (L.take k ++ m :: L.drop k)) := by rw [List.append_assoc] at hMo; exact hMo
        have HB4 : Hid _ := hB4
        clear hMo hB4
        go_wp2
        go_ret
        exact ⟨g', c', rfl, hg', k, HMo.out, hk, HA.out, fun _ h => by simp only [hjp, Nat.add_sub_cancel]; rw [← HY.out]; exact hml, HB4.out⟩
      · go_wp2
        go_roundw
        case rel =>
          refine ⟨jp, by omega, by go_num, (fun j h h' => ?_ : ∀ j (h : j < L.length), jp ≤ j → mlt m L[j] = true), HT.out⟩
          by_cases e : j = jp
          · subst e; rw [← HY.out]; exact hml
          · exact HA.out j h (by omega)
        case measure => simp [intOf]; omega
    · obtain rfl : k = 0 := by omega
      obtain ⟨o, ho⟩ : ∃ o, (c = 0 ∧ o = 0) ∨ (¬ c = 0 ∧ o = 0 * 4) := by
        by_cases e : c = 0
        · exact ⟨0, .inl ⟨e, rfl⟩⟩
        · exact ⟨0 * 4, .inr ⟨e, rfl⟩⟩
      go_wp2
      go_quiet (fail)
      go_upto_region 4 with fail
      refine put_r4 (L := L) (w0 := w) (m := m) hk rfl hl hnc ho (m_drewN HB.out _) (s4_new (m_drewN (Below.refl _ _) _) HS.out) (Mo.new HM.out (m_drewN HB.out _)) ?_
      intro wx g' c' u21 u22 u23 u24 u25 u26 u27 u28 u29 u30 u31 hB4 hg' hMo
      have HMo : Hid (Mo wx 66 (.slice (some ⟨g', 0, none⟩) (L.length + 1) c') (L.take 0 ++ m :: L.drop 0)) := by rw [List.append_assoc] at hMo; exact hMo
      have HB4 : Hid _ := hB4
      clear hMo hB4
      go_wp2
      go_ret
      exact ⟨g', c', rfl, hg', 0, HMo.out, hk, HA.out, fun h => absurd h (by omega), HB4.out⟩
end Go.Proofs.Ytfajkfngjfhkoaa
