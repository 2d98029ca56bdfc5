import Derived.Test.YtjemnkijoiehmaaGreatDoorGnRowM
import Derived.Test.YtjemnkijoiehmaaGreatDoorDkAwM
import Derived.Maps.AppendAt
import Derived.ArgAppend
/- store: rows of numbers in memory: those that can be read, those of one's own (from a place of their block on); appends. -/
namespace Go.Proofs.YtjemnkijoiehmaaGreatDoor
open Go.RowKit Go.Maps
variable {Xm : Nat → Prop}
/-- Numbers that can be read. -/
def NrS (w : World) (v : Value) (R : List Int) : Prop := ∃ ao cap, v = .slice ao R.length cap ∧ R.length ≤ cap ∧ (0 < R.length → ∃ b off, ao = some ⟨b, off, none⟩ ∧ ∀ j (h : j < R.length), w.cell? ⟨b, off + j, none⟩ = some (.int .i64 R[j]))
/-- Texts in a row of one's own. -/
def NrO (w : World) (B : Nat) (v : Value) (R : List Int) : Prop := (v = .slice none 0 0 ∧ R = []) ∨ ∃ g off cap, v = .slice (some ⟨g, off, none⟩) R.length cap ∧ B ≤ g ∧ (∃ cur, w.heap[g]? = some (.cells cur 3 (0, 0)) ∧ off + cap ≤ cur.size) ∧ R.length ≤ cap ∧ cap ≤ maxLen ∧ ∀ j (h : j < R.length), w.cell? ⟨g, off + j, none⟩ = some (.int .i64 R[j])
theorem NrO.toS {w : World} {B : Nat} {v : Value} {R : List Int} (h : NrO w B v R) : NrS w v R := by
  rcases h with ⟨rfl, rfl⟩ | ⟨g, off, cap, rfl, _, _, h1, _, h2⟩
  · exact ⟨none, 0, rfl, Nat.le_refl _, fun h => absurd h (by simp)⟩
  · exact ⟨_, _, rfl, h1, fun _ => ⟨g, off, rfl, h2⟩⟩
theorem NrO.shape {w : World} {B : Nat} {v : Value} {R : List Int} (h : NrO w B v R) : ∃ ao c, v = .slice ao R.length c := by
  rcases h with ⟨rfl, rfl⟩ | ⟨g, off, cap, rfl, _⟩
  · exact ⟨none, 0, rfl⟩
  · exact ⟨_, _, rfl⟩
theorem NrO.nil (w : World) (B : Nat) : NrO w B (.slice none 0 0) [] := .inl ⟨rfl, rfl⟩
theorem NrO.low {w : World} {B C : Nat} {v : Value} {R : List Int} (h : NrO w B v R) (hC : C ≤ B) : NrO w C v R := by
  rcases h with h | ⟨g, off, cap, h1, h2, h3⟩
  · exact .inl h
  · exact .inr ⟨g, off, cap, h1, Nat.le_trans hC h2, h3⟩
theorem NrO.up {w : World} {B C : Nat} {v : Value} {R : List Int} (h : NrO w B v R) (hC : ∀ k, v.ownBlock = some k → C ≤ k) : NrO w C v R := by
  rcases h with h | ⟨g, off, cap, rfl, h2, h3⟩
  · exact .inl h
  · exact .inr ⟨g, off, cap, rfl, hC g rfl, h3⟩
theorem NrO.tag {w : World} {B : Nat} {v : Value} {R : List Int} (h : NrO w B v R) {k : Nat} (hk : v.ownBlock = some k) : B ≤ k ∧ ∃ c f, w.heap[k]? = some (.cells c 3 f) := by
  rcases h with ⟨rfl, _⟩ | ⟨g, off, cap, rfl, h1, ⟨cur, h2, _⟩, _⟩
  · cases hk
  · cases hk
    exact ⟨h1, _, _, h2⟩
theorem NrO.below {w V w' : World} {B : Nat} {v : Value} {R : List Int} (h : NrO w B v R) (hV : B ≤ V.heap.size) (f : Fr V w' (fun k => v.ownBlock = some k)) : Below B V w' := f.below hV (fun _ hk => (h.tag hk).1)
theorem NrO.kept {w w' : World} {B : Nat} {v : Value} {R : List Int} (h : NrO w B v R) {S : Nat → Prop} (f : Fr w w' S) (hS : ∀ k, v.ownBlock = some k → ¬ S k) : NrO w' B v R := by
  rcases h with h | ⟨g, off, cap, rfl, h1, ⟨cur, h2, h3⟩, h4, h5, h6⟩
  · exact .inl h
  · have e := f.block g (lt_blk h2) (hS g rfl)
    refine .inr ⟨g, off, cap, rfl, h1, ⟨cur, e.trans h2, h3⟩, h4, h5, fun j hj => ?_⟩
    exact (World.cell?_of_block (a := ⟨g, off + j, none⟩) e).trans (h6 j hj)
theorem NrO.new {w w' : World} {B : Nat} {v : Value} {R : List Int} (h : NrO w B v R) (hb : Below w.heap.size w w') : NrO w' B v R := h.kept (Fr.ofBelow hb (fun _ => False)) (fun _ _ h => h)
/-- What a disk writes is no row of texts. -/
theorem NrO.frD {w w' : World} {B D : Nat} {v : Value} {R : List Int} (h : NrO w B v R) (f : FrD Xm D w w') : NrO w' B v R := by
  refine h.kept f (fun k hk s => ?_)
  obtain ⟨_, c, f', hb⟩ := h.tag hk
  rcases s.2 with ⟨es, c', hm⟩ | ⟨c', t, f'', hm, ht⟩
  · rw [hb] at hm; cases hm
  · rw [hb] at hm
    cases hm
    rcases ht with ht | ht <;> exact absurd ht (by decide)
theorem NrS.new {w w' : World} {v : Value} {R : List Int} (h : NrS w v R) (hb : Below w.heap.size w w') : NrS w' v R := by
  obtain ⟨ao, cap, rfl, h1, h2⟩ := h
  refine ⟨ao, cap, rfl, h1, fun h0 => ?_⟩
  obtain ⟨b, off, e, h3⟩ := h2 h0
  exact ⟨b, off, e, fun j hj => (hb.cell (p := ⟨b, off + j, none⟩) (lt_cellD (h3 j hj))).trans (h3 j hj)⟩
def nrc (R : List Int) : List Value := R.map fun s => .int .i64 s
theorem nrc_len (R : List Int) : (nrc R).length = R.length := by simp [nrc]
theorem nrc_one (R : List Int) : ∀ u ∈ nrc R, u.oneCell' = true := by
  intro u hu
  obtain ⟨s, _, rfl⟩ := List.mem_map.1 hu
  rfl
theorem nrc_get {R : List Int} {j : Nat} {u : Value} (h : (nrc R)[j]? = some u) : ∃ hj : j < R.length, u = .int .i64 R[j] := by
  unfold nrc at h
  rw [List.getElem?_map] at h
  cases e : R[j]? with
  | none => rw [e] at h; cases h
  | some x =>
    rw [e] at h
    obtain ⟨hj, rfl⟩ := List.getElem?_eq_some_iff.1 e
    cases h
    exact ⟨hj, rfl⟩
theorem NrO.ofRow {w : World} {B : Nat} {v : Value} {R : List Int} (h : w.ownsRow B 3 1 v R.length (nrc R)) : NrO w B v R := by
  rcases h.2 with ⟨h1, h2⟩ | ⟨g, cap, cur, rfl, h3, h4, h5, h6, h7, h8⟩
  · exact .inl ⟨h1, List.length_eq_zero_iff.1 h2⟩
  · refine .inr ⟨g, 0, cap, rfl, h3, ⟨cur, h4, by omega⟩, h5, h6, fun j hj => ?_⟩
    have := h.cells (g := g) rfl j (.int .i64 R[j]) (by unfold nrc; rw [List.getElem?_map, List.getElem?_eq_getElem hj]; rfl)
    rw [Addr.add_lit] at this
    exact this
theorem blk_setsN {g : Nat} {t : TypeId} : ∀ (vs : List Value) (o : Nat) (w : World) (cs : Array Value), w.heap[g]? = some (.cells cs t (0, 0)) → ∃ cs', (w.setCells g o vs).heap[g]? = some (.cells cs' t (0, 0)) ∧ cs'.size = cs.size
  | [], _, _, cs, h => ⟨cs, h, rfl⟩
  | v :: r, o, w, cs, h => by
    obtain ⟨cs', h1, h2⟩ := blk_setsN r (o + 1) (w.setCell ⟨g, o, none⟩ v) _ (blk_set (i := o) v h)
    exact ⟨cs', h1, h2.trans (by simp)⟩
theorem fr_setsN {g : Nat} : ∀ (vs : List Value) (o : Nat) (w : World), Fr w (w.setCells g o vs) (fun k => k = g)
  | [], _, w => Fr.refl w _
  | v :: r, o, w => (Fr.setCell (S := fun k => k = g) w ⟨g, o, none⟩ v rfl).trans (fr_setsN r (o + 1) _) (fun _ _ h => h)
theorem infoN : ∃ i, Tryz.prog.info? 3 = some i ∧ i.zero = some (.int .i64 0) ∧ i.size = 1 ∧ i.bytes = 8 := by
  cases h : Tryz.prog.info? 3 with
  | none =>
    have : (Tryz.prog.info? 3).isSome = true := by kernel_rfl
    rw [h] at this
    cases this
  | some i =>
    have h1 : (Tryz.prog.info? 3).map (·.zero) = some (some (.int .i64 0)) := by kernel_rfl
    have h2 : (Tryz.prog.info? 3).map (·.size) = some 1 := by kernel_rfl
    have h3 : (Tryz.prog.info? 3).map (·.bytes) = some 8 := by kernel_rfl
    rw [h] at h1 h2 h3
    exact ⟨i, rfl, by simpa using h1, by simpa using h2, by simpa using h3⟩
theorem run_append_noneN {P : Program} (w : World) (t ty e : TypeId) (i : TypeInfo) (ht : P.underlying t = some (.slice e)) (hi : P.info? e = some i) (base bo : Option Addr) (n c c2 : Nat) (hle : n ≤ c) :
    (Builtin.append_ #[t, t] ty #[.slice base n c, .slice bo 0 c2]).run P w = .ok (.slice base n c) w := by
  cases base <;> cases bo <;> simp [Builtin.append_, run_underlying ht, sizeOf, typeInfo, hi, hle, storeCells, loadCells, loadCellsFrom, Builtin.lenOf, Builtin.firstCells]
theorem row_nro {w' : World} {B : Nat} {v' : Value} {R S : List Int} (h : w'.ownsRow B 3 1 v' (R.length + S.length) (nrc R ++ nrc S)) : NrO w' B v' (R ++ S) := by
  refine NrO.ofRow ?_
  rw [List.length_append]
  unfold nrc at h ⊢
  rw [List.map_append]
  exact h
/-- Texts put behind texts of one's own. -/
theorem run_appN {w : World} {B : Nat} {v x : Value} {R S : List Int} (hv : NrO w B v R) (hx : NrS w x S) (hl : R.length + S.length ≤ 2000000000) (hB : B ≤ w.heap.size) (ty : TypeId) : ∃ v' w', (Builtin.append_ #[31, 31] ty #[v, x]).run Tryz.prog w = .ok v' w' ∧ NrO w' B v' (R ++ S) ∧ Fr w w' (fun k => v.ownBlock = some k) ∧ (∀ k, v'.ownBlock = some k → v.ownBlock = some k ∨ w.heap.size ≤ k) := by
  obtain ⟨i, hi, hz, hsize, hby⟩ := infoN
  have ht := Tryz.underlying31
  obtain ⟨ao, c, rfl, hc, hs⟩ := hx
  by_cases hm : 0 < S.length
  · obtain ⟨b, o, rfl, hcell⟩ := hs hm
    have hsrc : ∀ j u, (nrc S)[j]? = some u → w.cell? ((⟨b, o, none⟩ : Addr).add j) = some u := fun j u hu => by
      obtain ⟨hj, rfl⟩ := nrc_get hu
      rw [Addr.add_lit]
      exact hcell j hj
    have hlS : (nrc S).length = S.length * 1 := by rw [nrc_len, Nat.mul_one]
    rcases hv with ⟨rfl, rfl⟩ | ⟨g, off, cap, rfl, h1, ⟨cur, h2, h3⟩, h4, h5, h6⟩
    · obtain ⟨v', w', hr, h2, h3, _, h5⟩ := run_append_own_at (P := Tryz.prog) w B 31 ty 3 i _ 1 8 ht hi hz hsize hby rfl (by decide) (.slice none 0 0) 0 [] (World.ownsRow_nil _ _ _ _) ⟨b, o, none⟩ S.length c (nrc S) hlS hsrc (nrc_one S) (by simp at hl; unfold maxLen; omega) (by simp at hl; omega) hB
      refine ⟨v', w', hr, row_nro (R := []) (S := S) (by simpa [nrc] using h2), Fr.grown h3 (fun k e => e), fun k hk => ?_⟩
      rcases h5 with h5 | h5
      · exact .inl (h5.symm.trans hk)
      · rw [h5] at hk; cases hk; exact .inr (Nat.le_refl _)
    · by_cases hroom : R.length + S.length ≤ cap
      · have hsome : ∀ j, j < (nrc S).length → (w.cell? ⟨g, off + R.length * i.size + j, none⟩).isSome = true := fun j hj => by
          rw [nrc_len] at hj
          rw [hsize, Nat.mul_one, cell_blk h2]
          simp
          omega
        have hfz : ∀ j, j < (nrc S).length → w.frozen? ⟨g, off + R.length * i.size + j, none⟩ = false := fun j _ => by simp [World.frozen?, h2]
        have hr := run_append_room_cells (P := Tryz.prog) w 31 ty 3 i ht hi g off R.length cap ⟨b, o, none⟩ S.length c (nrc S) (by rw [hsize]; exact hlS) hsrc (nrc_one S) hroom hsome hfz
        refine ⟨_, _, hr, .inr ⟨g, off, cap, by rw [List.length_append], h1, ?_, by rw [List.length_append]; exact hroom, h5, ?_⟩, Fr.mono (fr_setsN _ _ _) (fun k _ e => by rw [e]; rfl), fun k hk => .inl hk⟩
        · obtain ⟨cs', e1, e2⟩ := blk_setsN (nrc S) (off + R.length * i.size) w cur h2
          exact ⟨cs', e1, by omega⟩
        · intro j hj
          rw [List.length_append] at hj
          by_cases hjR : j < R.length
          · rw [World.cell?_setCells_out g _ _ _ _ (fun _ _ => .inl (by rw [hsize]; show off + j < _; omega)), List.getElem_append_left hjR]
            exact h6 j hjR
          · have e := World.cell?_setCells_in g (nrc S) (off + R.length * i.size) w hsome (j - R.length) (by rw [nrc_len]; omega)
            rw [show off + R.length * i.size + (j - R.length) = off + j by rw [hsize]; omega] at e
            rw [e, List.getElem_append_right (by omega)]
            simp [nrc]
      · obtain ⟨v', w', hr, h7, h8⟩ := run_append_arg_grows (P := Tryz.prog) w 31 ty 3 i _ 1 8 ht hi hz hsize hby rfl (by decide) ⟨g, off, none⟩ R.length cap (nrc R) (by rw [nrc_len, Nat.mul_one]) (fun j u hu => by
            obtain ⟨hj, rfl⟩ := nrc_get hu
            rw [Addr.add_lit]
            exact h6 j hj) ⟨b, o, none⟩ S.length c (nrc S) hlS hsrc (by omega) (by unfold maxLen; omega) (by omega)
        have hT := row_nro h7
        exact ⟨v', w', hr, hT.low hB, Fr.grown h8 (fun k e => by cases e), fun k hk => .inr (hT.tag hk).1⟩
  · have e0 : S = [] := List.length_eq_zero_iff.1 (by omega)
    subst e0
    rcases hv with ⟨rfl, rfl⟩ | ⟨g, off, cap, rfl, h1, h2, h4, h5, h6⟩
    · exact ⟨_, _, run_append_noneN w _ ty _ i ht hi none ao 0 0 c (Nat.le_refl _), .inl ⟨rfl, rfl⟩, Fr.refl _ _, fun k hk => .inl hk⟩
    · refine ⟨_, _, run_append_noneN w _ ty _ i ht hi (some ⟨g, off, none⟩) ao R.length cap c h4, ?_, Fr.refl _ _, fun k hk => .inl hk⟩
      rw [List.append_nil]
      exact .inr ⟨g, off, cap, rfl, h1, h2, h4, h5, h6⟩
theorem op_appN {o : Oper} {a : Act} {w : World} {K : Act → World → Prop} {Q : Exit → Act → World → Prop} {s x : Operand} (hop : o.op = .call { callee := .builtin .append, args := #[s, x], argTypes := #[31, 31] })
    {B : Nat} {v xv : Value} {R S : List Int} (hs : a.eval s = v) (hx : a.eval x = xv) (hv : NrO w B v R) (hS : NrS w xv S) (hl : R.length + S.length ≤ 2000000000) (hB : B ≤ w.heap.size)
    (h : ∀ v' w', NrO w' B v' (R ++ S) → Fr w w' (fun k => v.ownBlock = some k) → (∀ k, v'.ownBlock = some k → v.ownBlock = some k ∨ w.heap.size ≤ k) → K (a.put o.dst v') w') : o.wp Tryz.prog a w K Q := by
  obtain ⟨v', w', hr, h2, h3, h5⟩ := run_appN hv hS hl hB o.type
  unfold Oper.wp execOp
  simp only [hop, resolve, invoke, builtin, Sem.run_bind, Sem.run_pure, Result.andThen_ok, List.map_toArray, List.map_cons, List.map_nil, hs, hx, hr]
  exact h v' w' h2 h3 h5
theorem wpl_appN {ops : Array Oper} {rest : List Oper} {o : Oper} {a : Act} {w : World} {Q : Exit → Act → World → Prop} (hgd : o.guard = none) {s x : Operand} (hop : o.op = .call { callee := .builtin .append, args := #[s, x], argTypes := #[31, 31] })
    {B : Nat} {v xv : Value} {R S : List Int} (hs : a.eval s = v) (hx : a.eval x = xv) (hv : NrO w B v R) (hS : NrS w xv S) (hl : R.length + S.length ≤ 2000000000) (hB : B ≤ w.heap.size)
    (h : ∀ v' w', NrO w' B v' (R ++ S) → Fr w w' (fun k => v.ownBlock = some k) → (∀ k, v'.ownBlock = some k → v.ownBlock = some k ∨ w.heap.size ≤ k) → wpList Tryz.prog ops Q rest (a.put o.dst v') w') : wpList Tryz.prog ops Q (o :: rest) a w :=
  wpList_plain hgd fun _ hK => op_appN hop hs hx hv hS hl hB (fun v' w' h2 h3 h5 => hK _ _ (h v' w' h2 h3 h5))
theorem srcN (w : World) (x : Int) : NrS (w.alloc (.cells #[.int .i64 x] 3)) (.slice (some ⟨w.heap.size, 0, none⟩) 1 1) [x] := by
  refine ⟨_, 1, rfl, Nat.le_refl _, fun _ => ⟨w.heap.size, 0, rfl, fun j hj => ?_⟩⟩
  obtain rfl : j = 0 := by simpa using hj
  exact cell_blk (heap_alloc_new _ _)
end Go.Proofs.YtjemnkijoiehmaaGreatDoor
