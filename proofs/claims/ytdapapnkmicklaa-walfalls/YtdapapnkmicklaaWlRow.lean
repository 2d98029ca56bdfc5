/- Rows of texts in memory: those that can be read, those of one's own (from a place of their block on); appends. -/
import Derived.Test.YtdapapnkmicklaaDkSec
import Derived.Test.YtdapapnkmicklaaWlMath
import Derived.Maps.AppendAt
import Derived.ArgAppend
namespace Go.Proofs.Ytdapapnkmicklaa
open Go.RowKit Go.Maps
/-- Texts that can be read. -/
def TxS (w : World) (v : Value) (R : List Bs) : Prop := ∃ ao cap, v = .slice ao R.length cap ∧ R.length ≤ cap ∧ (0 < R.length → ∃ b off, ao = some ⟨b, off, none⟩ ∧ ∀ j (h : j < R.length), w.cell? ⟨b, off + j, none⟩ = some (.string (str R[j])))
/-- Texts in a row of one's own. -/
def TxO (w : World) (B : Nat) (v : Value) (R : List Bs) : Prop := (v = .slice none 0 0 ∧ R = []) ∨ ∃ g off cap, v = .slice (some ⟨g, off, none⟩) R.length cap ∧ B ≤ g ∧ (∃ cur, w.heap[g]? = some (.cells cur 9 (0, 0)) ∧ off + cap ≤ cur.size) ∧ R.length ≤ cap ∧ cap ≤ maxLen ∧ ∀ j (h : j < R.length), w.cell? ⟨g, off + j, none⟩ = some (.string (str R[j]))
theorem TxO.toS {w : World} {B : Nat} {v : Value} {R : List Bs} (h : TxO w B v R) : TxS w v R := by
  rcases h with ⟨rfl, rfl⟩ | ⟨g, off, cap, rfl, _, _, h1, _, h2⟩
  · exact ⟨none, 0, rfl, Nat.le_refl _, fun h => absurd h (by simp)⟩
  · exact ⟨_, _, rfl, h1, fun _ => ⟨g, off, rfl, h2⟩⟩
theorem TxO.shape {w : World} {B : Nat} {v : Value} {R : List Bs} (h : TxO w B v R) : ∃ ao c, v = .slice ao R.length c := by
  rcases h with ⟨rfl, rfl⟩ | ⟨g, off, cap, rfl, _⟩
  · exact ⟨none, 0, rfl⟩
  · exact ⟨_, _, rfl⟩
theorem TxO.nil (w : World) (B : Nat) : TxO w B (.slice none 0 0) [] := .inl ⟨rfl, rfl⟩
theorem TxO.low {w : World} {B C : Nat} {v : Value} {R : List Bs} (h : TxO w B v R) (hC : C ≤ B) : TxO w C v R := by
  rcases h with h | ⟨g, off, cap, h1, h2, h3⟩
  · exact .inl h
  · exact .inr ⟨g, off, cap, h1, Nat.le_trans hC h2, h3⟩
theorem TxO.up {w : World} {B C : Nat} {v : Value} {R : List Bs} (h : TxO w B v R) (hC : ∀ k, v.ownBlock = some k → C ≤ k) : TxO w C v R := by
  rcases h with h | ⟨g, off, cap, rfl, h2, h3⟩
  · exact .inl h
  · exact .inr ⟨g, off, cap, rfl, hC g rfl, h3⟩
theorem TxO.tag {w : World} {B : Nat} {v : Value} {R : List Bs} (h : TxO w B v R) {k : Nat} (hk : v.ownBlock = some k) : B ≤ k ∧ ∃ c f, w.heap[k]? = some (.cells c 9 f) := by
  rcases h with ⟨rfl, _⟩ | ⟨g, off, cap, rfl, h1, ⟨cur, h2, _⟩, _⟩
  · cases hk
  · cases hk
    exact ⟨h1, _, _, h2⟩
theorem TxO.below {w V w' : World} {B : Nat} {v : Value} {R : List Bs} (h : TxO w B v R) (hV : B ≤ V.heap.size) (f : Fr V w' (fun k => v.ownBlock = some k)) : Below B V w' := f.below hV (fun _ hk => (h.tag hk).1)
theorem TxO.kept {w w' : World} {B : Nat} {v : Value} {R : List Bs} (h : TxO w B v R) {S : Nat → Prop} (f : Fr w w' S) (hS : ∀ k, v.ownBlock = some k → ¬ S k) : TxO w' B v R := by
  rcases h with h | ⟨g, off, cap, rfl, h1, ⟨cur, h2, h3⟩, h4, h5, h6⟩
  · exact .inl h
  · have e := f.block g (lt_blk h2) (hS g rfl)
    refine .inr ⟨g, off, cap, rfl, h1, ⟨cur, e.trans h2, h3⟩, h4, h5, fun j hj => ?_⟩
    exact (World.cell?_of_block (a := ⟨g, off + j, none⟩) e).trans (h6 j hj)
theorem TxO.new {w w' : World} {B : Nat} {v : Value} {R : List Bs} (h : TxO w B v R) (hb : Below w.heap.size w w') : TxO w' B v R := h.kept (Fr.ofBelow hb (fun _ => False)) (fun _ _ h => h)
/-- What a disk writes is no row of texts. -/
theorem TxO.frD {w w' : World} {B D : Nat} {v : Value} {R : List Bs} (h : TxO w B v R) (f : FrD D w w') : TxO w' B v R := by
  refine h.kept f (fun k hk s => ?_)
  obtain ⟨_, c, f', hb⟩ := h.tag hk
  rcases s.2 with ⟨es, c', hm⟩ | ⟨c', t, f'', hm, ht⟩
  · rw [hb] at hm; cases hm
  · rw [hb] at hm
    cases hm
    rcases ht with ht | ht <;> exact absurd ht (by decide)
theorem TxS.new {w w' : World} {v : Value} {R : List Bs} (h : TxS w v R) (hb : Below w.heap.size w w') : TxS w' v R := by
  obtain ⟨ao, cap, rfl, h1, h2⟩ := h
  refine ⟨ao, cap, rfl, h1, fun h0 => ?_⟩
  obtain ⟨b, off, e, h3⟩ := h2 h0
  exact ⟨b, off, e, fun j hj => (hb.cell (p := ⟨b, off + j, none⟩) (lt_cellD (h3 j hj))).trans (h3 j hj)⟩
def txc (R : List Bs) : List Value := R.map fun s => .string (str s)
theorem txc_len (R : List Bs) : (txc R).length = R.length := by simp [txc]
theorem txc_one (R : List Bs) : ∀ u ∈ txc R, u.oneCell' = true := by
  intro u hu
  obtain ⟨s, _, rfl⟩ := List.mem_map.1 hu
  rfl
theorem txc_get {R : List Bs} {j : Nat} {u : Value} (h : (txc R)[j]? = some u) : ∃ hj : j < R.length, u = .string (str R[j]) := by
  unfold txc at h
  rw [List.getElem?_map] at h
  cases e : R[j]? with
  | none => rw [e] at h; cases h
  | some x =>
    rw [e] at h
    obtain ⟨hj, rfl⟩ := List.getElem?_eq_some_iff.1 e
    cases h
    exact ⟨hj, rfl⟩
theorem TxO.ofRow {w : World} {B : Nat} {v : Value} {R : List Bs} (h : w.ownsRow B 9 1 v R.length (txc R)) : TxO w B v R := by
  rcases h.2 with ⟨h1, h2⟩ | ⟨g, cap, cur, rfl, h3, h4, h5, h6, h7, h8⟩
  · exact .inl ⟨h1, List.length_eq_zero_iff.1 h2⟩
  · refine .inr ⟨g, 0, cap, rfl, h3, ⟨cur, h4, by omega⟩, h5, h6, fun j hj => ?_⟩
    have := h.cells (g := g) rfl j (.string (str R[j])) (by unfold txc; rw [List.getElem?_map, List.getElem?_eq_getElem hj]; rfl)
    rw [Addr.add_lit] at this
    exact this
theorem blk_sets {g : Nat} {t : TypeId} : ∀ (vs : List Value) (o : Nat) (w : World) (cs : Array Value), w.heap[g]? = some (.cells cs t (0, 0)) → ∃ cs', (w.setCells g o vs).heap[g]? = some (.cells cs' t (0, 0)) ∧ cs'.size = cs.size
  | [], _, _, cs, h => ⟨cs, h, rfl⟩
  | v :: r, o, w, cs, h => by
    obtain ⟨cs', h1, h2⟩ := blk_sets r (o + 1) (w.setCell ⟨g, o, none⟩ v) _ (blk_set (i := o) v h)
    exact ⟨cs', h1, h2.trans (by simp)⟩
theorem fr_sets {g : Nat} : ∀ (vs : List Value) (o : Nat) (w : World), Fr w (w.setCells g o vs) (fun k => k = g)
  | [], _, w => Fr.refl w _
  | v :: r, o, w => (Fr.setCell (S := fun k => k = g) w ⟨g, o, none⟩ v rfl).trans (fr_sets r (o + 1) _) (fun _ _ h => h)
theorem infoS : ∃ i, Try.prog.info? 9 = some i ∧ i.zero = some (.string (str [])) ∧ i.size = 1 ∧ i.bytes = 16 := by
  cases h : Try.prog.info? 9 with
  | none =>
    have : (Try.prog.info? 9).isSome = true := by kernel_rfl
    rw [h] at this
    cases this
  | some i =>
    have h1 : (Try.prog.info? 9).map (·.zero) = some (some (.string (str []))) := by kernel_rfl
    have h2 : (Try.prog.info? 9).map (·.size) = some 1 := by kernel_rfl
    have h3 : (Try.prog.info? 9).map (·.bytes) = some 16 := by kernel_rfl
    rw [h] at h1 h2 h3
    exact ⟨i, rfl, by simpa using h1, by simpa using h2, by simpa using h3⟩
theorem run_append_noneT {P : Program} (w : World) (t ty e : TypeId) (i : TypeInfo) (ht : P.underlying t = some (.slice e)) (hi : P.info? e = some i) (base bo : Option Addr) (n c c2 : Nat) (hle : n ≤ c) :
    (Builtin.append_ #[t, t] ty #[.slice base n c, .slice bo 0 c2]).run P w = .ok (.slice base n c) w := by
  cases base <;> cases bo <;> simp [Builtin.append_, run_underlying ht, sizeOf, typeInfo, hi, hle, storeCells, loadCells, loadCellsFrom, Builtin.lenOf, Builtin.firstCells]
theorem row_txo {w' : World} {B : Nat} {v' : Value} {R S : List Bs} (h : w'.ownsRow B 9 1 v' (R.length + S.length) (txc R ++ txc S)) : TxO w' B v' (R ++ S) := by
  refine TxO.ofRow ?_
  rw [List.length_append]
  unfold txc at h ⊢
  rw [List.map_append]
  exact h
/-- Texts put behind texts of one's own. -/
theorem run_appT {w : World} {B : Nat} {v x : Value} {R S : List Bs} (hv : TxO w B v R) (hx : TxS w x S) (hl : R.length + S.length ≤ 2000000000) (hB : B ≤ w.heap.size) (ty : TypeId) : ∃ v' w', (Builtin.append_ #[45, 45] ty #[v, x]).run Try.prog w = .ok v' w' ∧ TxO w' B v' (R ++ S) ∧ Fr w w' (fun k => v.ownBlock = some k) ∧ (∀ k, v'.ownBlock = some k → v.ownBlock = some k ∨ w.heap.size ≤ k) := by
  obtain ⟨i, hi, hz, hsize, hby⟩ := infoS
  have ht := Try.underlying45
  obtain ⟨ao, c, rfl, hc, hs⟩ := hx
  by_cases hm : 0 < S.length
  · obtain ⟨b, o, rfl, hcell⟩ := hs hm
    have hsrc : ∀ j u, (txc S)[j]? = some u → w.cell? ((⟨b, o, none⟩ : Addr).add j) = some u := fun j u hu => by
      obtain ⟨hj, rfl⟩ := txc_get hu
      rw [Addr.add_lit]
      exact hcell j hj
    have hlS : (txc S).length = S.length * 1 := by rw [txc_len, Nat.mul_one]
    rcases hv with ⟨rfl, rfl⟩ | ⟨g, off, cap, rfl, h1, ⟨cur, h2, h3⟩, h4, h5, h6⟩
    · obtain ⟨v', w', hr, h2, h3, _, h5⟩ := run_append_own_at (P := Try.prog) w B 45 ty 9 i _ 1 16 ht hi hz hsize hby rfl (by decide) (.slice none 0 0) 0 [] (World.ownsRow_nil _ _ _ _) ⟨b, o, none⟩ S.length c (txc S) hlS hsrc (txc_one S) (by simp at hl; unfold maxLen; omega) (by simp at hl; omega) hB
      refine ⟨v', w', hr, row_txo (R := []) (S := S) (by simpa [txc] using h2), Fr.grown h3 (fun k e => e), fun k hk => ?_⟩
      rcases h5 with h5 | h5
      · exact .inl (h5.symm.trans hk)
      · rw [h5] at hk; cases hk; exact .inr (Nat.le_refl _)
    · by_cases hroom : R.length + S.length ≤ cap
      · have hsome : ∀ j, j < (txc S).length → (w.cell? ⟨g, off + R.length * i.size + j, none⟩).isSome = true := fun j hj => by
          rw [txc_len] at hj
          rw [hsize, Nat.mul_one, cell_blk h2]
          simp
          omega
        have hfz : ∀ j, j < (txc S).length → w.frozen? ⟨g, off + R.length * i.size + j, none⟩ = false := fun j _ => by simp [World.frozen?, h2]
        have hr := run_append_room_cells (P := Try.prog) w 45 ty 9 i ht hi g off R.length cap ⟨b, o, none⟩ S.length c (txc S) (by rw [hsize]; exact hlS) hsrc (txc_one S) hroom hsome hfz
        refine ⟨_, _, hr, .inr ⟨g, off, cap, by rw [List.length_append], h1, ?_, by rw [List.length_append]; exact hroom, h5, ?_⟩, Fr.mono (fr_sets _ _ _) (fun k _ e => by rw [e]; rfl), fun k hk => .inl hk⟩
        · obtain ⟨cs', e1, e2⟩ := blk_sets (txc S) (off + R.length * i.size) w cur h2
          exact ⟨cs', e1, by omega⟩
        · intro j hj
          rw [List.length_append] at hj
          by_cases hjR : j < R.length
          · rw [World.cell?_setCells_out g _ _ _ _ (fun _ _ => .inl (by rw [hsize]; show off + j < _; omega)), List.getElem_append_left hjR]
            exact h6 j hjR
          · have e := World.cell?_setCells_in g (txc S) (off + R.length * i.size) w hsome (j - R.length) (by rw [txc_len]; omega)
            rw [show off + R.length * i.size + (j - R.length) = off + j by rw [hsize]; omega] at e
            rw [e, List.getElem_append_right (by omega)]
            simp [txc]
      · obtain ⟨v', w', hr, h7, h8⟩ := run_append_arg_grows (P := Try.prog) w 45 ty 9 i _ 1 16 ht hi hz hsize hby rfl (by decide) ⟨g, off, none⟩ R.length cap (txc R) (by rw [txc_len, Nat.mul_one]) (fun j u hu => by
            obtain ⟨hj, rfl⟩ := txc_get hu
            rw [Addr.add_lit]
            exact h6 j hj) ⟨b, o, none⟩ S.length c (txc S) hlS hsrc (by omega) (by unfold maxLen; omega) (by omega)
        have hT := row_txo h7
        exact ⟨v', w', hr, hT.low hB, Fr.grown h8 (fun k e => by cases e), fun k hk => .inr (hT.tag hk).1⟩
  · have e0 : S = [] := List.length_eq_zero_iff.1 (by omega)
    subst e0
    rcases hv with ⟨rfl, rfl⟩ | ⟨g, off, cap, rfl, h1, h2, h4, h5, h6⟩
    · exact ⟨_, _, run_append_noneT w _ ty _ i ht hi none ao 0 0 c (Nat.le_refl _), .inl ⟨rfl, rfl⟩, Fr.refl _ _, fun k hk => .inl hk⟩
    · refine ⟨_, _, run_append_noneT w _ ty _ i ht hi (some ⟨g, off, none⟩) ao R.length cap c h4, ?_, Fr.refl _ _, fun k hk => .inl hk⟩
      rw [List.append_nil]
      exact .inr ⟨g, off, cap, rfl, h1, h2, h4, h5, h6⟩
theorem op_appT {o : Oper} {a : Act} {w : World} {K : Act → World → Prop} {Q : Exit → Act → World → Prop} {s x : Operand} (hop : o.op = .call { callee := .builtin .append, args := #[s, x], argTypes := #[45, 45] })
    {B : Nat} {v xv : Value} {R S : List Bs} (hs : a.eval s = v) (hx : a.eval x = xv) (hv : TxO w B v R) (hS : TxS w xv S) (hl : R.length + S.length ≤ 2000000000) (hB : B ≤ w.heap.size)
    (h : ∀ v' w', TxO w' B v' (R ++ S) → Fr w w' (fun k => v.ownBlock = some k) → (∀ k, v'.ownBlock = some k → v.ownBlock = some k ∨ w.heap.size ≤ k) → K (a.put o.dst v') w') : o.wp Try.prog a w K Q := by
  obtain ⟨v', w', hr, h2, h3, h5⟩ := run_appT hv hS hl hB o.type
  unfold Oper.wp execOp
  simp only [hop, resolve, invoke, builtin, Sem.run_bind, Sem.run_pure, Result.andThen_ok, List.map_toArray, List.map_cons, List.map_nil, hs, hx, hr]
  exact h v' w' h2 h3 h5
theorem wpl_appT {ops : Array Oper} {rest : List Oper} {o : Oper} {a : Act} {w : World} {Q : Exit → Act → World → Prop} (hgd : o.guard = none) {s x : Operand} (hop : o.op = .call { callee := .builtin .append, args := #[s, x], argTypes := #[45, 45] })
    {B : Nat} {v xv : Value} {R S : List Bs} (hs : a.eval s = v) (hx : a.eval x = xv) (hv : TxO w B v R) (hS : TxS w xv S) (hl : R.length + S.length ≤ 2000000000) (hB : B ≤ w.heap.size)
    (h : ∀ v' w', TxO w' B v' (R ++ S) → Fr w w' (fun k => v.ownBlock = some k) → (∀ k, v'.ownBlock = some k → v.ownBlock = some k ∨ w.heap.size ≤ k) → wpList Try.prog ops Q rest (a.put o.dst v') w') : wpList Try.prog ops Q (o :: rest) a w :=
  wpList_plain hgd fun _ hK => op_appT hop hs hx hv hS hl hB (fun v' w' h2 h3 h5 => hK _ _ (h v' w' h2 h3 h5))
theorem stp_appT {ops : Array Oper} {o : Oper} {a : Act} {w : World} {K : Act → World → Prop} {Q : Exit → Act → World → Prop} {E : Prop} (hgd : o.guard = none) (s x : Operand) (hop : o.op = .call { callee := .builtin .append, args := #[s, x], argTypes := #[45, 45] })
    {B : Nat} {v xv : Value} {R S : List Bs} (hs : a.eval s = v) (hx : a.eval x = xv) (hv : TxO w B v R) (hS : TxS w xv S) (hl : R.length + S.length ≤ 2000000000) (hB : B ≤ w.heap.size)
    (h : ∀ v' w', TxO w' B v' (R ++ S) → Fr w w' (fun k => v.ownBlock = some k) → (∀ k, v'.ownBlock = some k → v.ownBlock = some k ∨ w.heap.size ≤ k) → K (a.put o.dst v') w') : if Region.wanted o (yielded ops a.tmps) = true then Oper.wp Try.prog o a w K Q else E := by
  have hw : Region.wanted o (yielded ops a.tmps) = true := by simp [Region.wanted, hgd]
  rw [if_pos hw]
  exact op_appT hop hs hx hv hS hl hB h
theorem src1 (w : World) (x : Bs) : TxS (w.alloc (.cells #[.string (str x)] 9)) (.slice (some ⟨w.heap.size, 0, none⟩) 1 1) [x] := by
  refine ⟨_, 1, rfl, Nat.le_refl _, fun _ => ⟨w.heap.size, 0, rfl, fun j hj => ?_⟩⟩
  obtain rfl : j = 0 := by simpa using hj
  exact cell_blk (heap_alloc_new _ _)
end Go.Proofs.Ytdapapnkmicklaa
