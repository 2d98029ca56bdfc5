/- Appends onto a row of one's own; rows of the document's files and changes. -/
import Derived.Test.YthpojidkmmflhaaDkNames
import Derived.Maps.AppendAt
namespace Go.Proofs.Ythpojidkmmflhaa
open Go.RowKit Go.Maps
attribute [local go_sem] Oper.semAt_some
theorem run_append_noneD {P : Program} (w : World) (t ty e : TypeId) (i : TypeInfo) (ht : P.underlying t = some (.slice e)) (hi : P.info? e = some i) (base bo : Option Addr) (n c c2 : Nat) (hle : n ≤ c) :
    (Builtin.append_ #[t, t] ty #[.slice base n c, .slice bo 0 c2]).run P w = .ok (.slice base n c) w := by
  cases base <;> cases bo <;> simp [Builtin.append_, run_underlying ht, sizeOf, typeInfo, hi, hle, storeCells, loadCells, loadCellsFrom, Builtin.lenOf, Builtin.firstCells]
/-- Cells that can be read from an address on, if there are any. -/
def SrcD (w : World) (bo : Option Addr) (m : Nat) (news : List Value) : Prop := 0 < m → ∃ b off, bo = some ⟨b, off, none⟩ ∧ ∀ j u, news[j]? = some u → w.cell? ⟨b, off + j, none⟩ = some u
theorem SrcD.new {w w' : World} {bo : Option Addr} {m : Nat} {news : List Value} (h : SrcD w bo m news) (hb : Below w.heap.size w w') : SrcD w' bo m news := by
  intro hm
  obtain ⟨b, off, e, hc⟩ := h hm
  exact ⟨b, off, e, fun j u hu => fr_cellD (Fr.ofBelow hb (fun _ => False)) (fun h => h) (hc j u hu)⟩
theorem op_appendD {o : Oper} {a : Act} {w : World} {K : Act → World → Prop} {Q : Exit → Act → World → Prop} {s x : Operand} {t e : TypeId} {i : TypeInfo} {z : Value} {size bytes : Nat} (ht : Try.prog.underlying t = some (.slice e)) (hi : Try.prog.info? e = some i) (hz : i.zero = some z) (hsize : i.size = size) (hby : i.bytes = bytes) (hzs : z.cells.size = size) (hsz : 0 < size) (hby2 : bytes ≤ 64)
    (hop : o.op = .call { callee := .builtin .append, args := #[s, x], argTypes := #[t, t] })
    (base : Nat) (v : Value) (n : Nat) (xs : List Value) (hs : a.eval s = v) (hown : w.ownsRow base e size v n xs) {bo : Option Addr} {m c : Nat} (hx : a.eval x = .slice bo m c) (news : List Value) (hl : news.length = m * size) (hE : SrcD w bo m news) (h1 : ∀ u ∈ news, u.oneCell' = true) (h63 : n + m ≤ 2000000000) (hbase : base ≤ w.heap.size)
    (h : ∀ v' w', w'.ownsRow base e size v' (n + m) (xs ++ news) → w.grownBy w' v.ownBlock → (v'.ownBlock = v.ownBlock ∨ v'.ownBlock = some w.heap.size) → K (a.put o.dst v') w') : o.wp Try.prog a w K Q := by
  by_cases hm : 0 < m
  · obtain ⟨b, off, rfl, hc⟩ := hE hm
    obtain ⟨v', w', hr, h2, h3, _, h5⟩ := run_append_own_at (P := Try.prog) w base t o.type e i z size bytes ht hi hz hsize hby hzs hsz v n xs hown ⟨b, off, none⟩ m c news hl (fun j u hu => by rw [Addr.add_lit]; exact hc j u hu) h1 (by unfold maxLen; omega) (Nat.le_trans (Nat.mul_le_mul h63 hby2) (by decide)) hbase
    unfold Oper.wp execOp
    simp only [hop, resolve, invoke, builtin, Sem.run_bind, Sem.run_pure, Result.andThen_ok, List.map_toArray, List.map_cons, List.map_nil, hs, hx, hr]
    exact h v' w' h2 h3 h5
  · obtain rfl : m = 0 := by omega
    have e0 : news = [] := List.length_eq_zero_iff.1 (by omega)
    subst e0
    have hle : ∃ so n cc, v = .slice so n cc ∧ n ≤ cc := by
      rcases hown.2 with ⟨h1, _⟩ | ⟨g, cap, cur, h1, _, _, hn, _⟩
      · exact ⟨_, _, _, h1, Nat.le_refl _⟩
      · exact ⟨_, _, _, h1, hn⟩
    obtain ⟨so, n', cc, rfl, hle⟩ := hle
    have hr := run_append_noneD (P := Try.prog) w t o.type e i ht hi so bo n' cc c hle
    unfold Oper.wp execOp
    simp only [hop, resolve, invoke, builtin, Sem.run_bind, Sem.run_pure, Result.andThen_ok, List.map_toArray, List.map_cons, List.map_nil, hs, hx, hr]
    refine h _ _ ?_ (World.grownBy.refl _ _) (.inl rfl)
    rw [List.append_nil, Nat.add_zero]
    exact hown
/-- Where a slice from an index on begins. -/
def subA (size : Nat) (go : Option Addr) (gc at_ : Nat) : Option Addr := if gc = at_ then go else go.map fun a => ⟨a.block, a.off + at_ * size, none⟩
theorem wpl_appD {ops : Array Oper} {rest : List Oper} {o : Oper} {a : Act} {w : World} {Q : Exit → Act → World → Prop} (hgd : o.guard = none) {s x : Operand} {t e : TypeId} {i : TypeInfo} {z : Value} {size bytes : Nat} (ht : Try.prog.underlying t = some (.slice e)) (hi : Try.prog.info? e = some i) (hz : i.zero = some z) (hsize : i.size = size) (hby : i.bytes = bytes) (hzs : z.cells.size = size) (hsz : 0 < size) (hby2 : bytes ≤ 64)
    (hop : o.op = .call { callee := .builtin .append, args := #[s, x], argTypes := #[t, t] })
    (base : Nat) (v : Value) (n : Nat) (xs : List Value) (hs : a.eval s = v) (hown : w.ownsRow base e size v n xs) {bo : Option Addr} {m c : Nat} (hx : a.eval x = .slice bo m c) (news : List Value) (hl : news.length = m * size) (hE : SrcD w bo m news) (h1 : ∀ u ∈ news, u.oneCell' = true) (h63 : n + m ≤ 2000000000) (hbase : base ≤ w.heap.size)
    (h : ∀ v' w', w'.ownsRow base e size v' (n + m) (xs ++ news) → w.grownBy w' v.ownBlock → (v'.ownBlock = v.ownBlock ∨ v'.ownBlock = some w.heap.size) → wpList Try.prog ops Q rest (a.put o.dst v') w') : wpList Try.prog ops Q (o :: rest) a w :=
  wpList_plain hgd fun _ hK => op_appendD ht hi hz hsize hby hzs hsz hby2 hop base v n xs hs hown hx news hl hE h1 h63 hbase (fun v' w' h2 h3 h5 => hK _ _ (h v' w' h2 h3 h5))
theorem stp_appD {ops : Array Oper} {o : Oper} {a : Act} {w : World} {K : Act → World → Prop} {Q : Exit → Act → World → Prop} {E : Prop} (hgd : o.guard = none) (s x : Operand) (t e : TypeId) {i : TypeInfo} {z : Value} {size bytes : Nat} (ht : Try.prog.underlying t = some (.slice e)) (hi : Try.prog.info? e = some i) (hz : i.zero = some z) (hsize : i.size = size) (hby : i.bytes = bytes) (hzs : z.cells.size = size) (hsz : 0 < size) (hby2 : bytes ≤ 64)
    (hop : o.op = .call { callee := .builtin .append, args := #[s, x], argTypes := #[t, t] })
    (base : Nat) (v : Value) (n : Nat) (xs : List Value) (hs : a.eval s = v) (hown : w.ownsRow base e size v n xs) {bo : Option Addr} {m c : Nat} (hx : a.eval x = .slice bo m c) (news : List Value) (hl : news.length = m * size) (hE : SrcD w bo m news) (h1 : ∀ u ∈ news, u.oneCell' = true) (h63 : n + m ≤ 2000000000) (hbase : base ≤ w.heap.size)
    (h : ∀ v' w', w'.ownsRow base e size v' (n + m) (xs ++ news) → w.grownBy w' v.ownBlock → (v'.ownBlock = v.ownBlock ∨ v'.ownBlock = some w.heap.size) → K (a.put o.dst v') w') : if Region.wanted o (yielded ops a.tmps) = true then Oper.wp Try.prog o a w K Q else E := by
  have hw : Region.wanted o (yielded ops a.tmps) = true := by simp [Region.wanted, hgd]
  rw [if_pos hw]
  exact op_appendD ht hi hz hsize hby hzs hsz hby2 hop base v n xs hs hown hx news hl hE h1 h63 hbase h
def flCells (p : Bs × Bs) : List Value := [.string (str p.1), .string (str p.2)]
theorem flc_len (l : Fl) : (l.flatMap flCells).length = l.length * 2 := by
  induction l with
  | nil => rfl
  | cons c r ih => rw [List.flatMap_cons, List.length_append, ih]; simp [flCells]; omega
theorem flc_one (l : Fl) : ∀ u ∈ l.flatMap flCells, u.oneCell' = true := by
  intro u hu
  obtain ⟨p, _, hp⟩ := List.mem_flatMap.1 hu
  simp only [flCells, List.mem_cons, List.not_mem_nil, or_false] at hp
  rcases hp with rfl | rfl <;> rfl
theorem chc_one (L : List Chg) : ∀ u ∈ L.flatMap chCells, u.oneCell' = true := by
  intro u hu
  obtain ⟨p, _, hp⟩ := List.mem_flatMap.1 hu
  simp only [chCells, List.mem_cons, List.not_mem_nil, or_false] at hp
  rcases hp with rfl | rfl | rfl | rfl <;> rfl
theorem flc_get (l : Fl) (j : Nat) (h : j < l.length) : (l.flatMap flCells)[j * 2]? = some (.string (str l[j].1)) ∧ (l.flatMap flCells)[j * 2 + 1]? = some (.string (str l[j].2)) := by
  induction l generalizing j with
  | nil => simp at h
  | cons c r ih =>
    rw [List.flatMap_cons]
    have hl : (flCells c).length = 2 := rfl
    cases j with
    | zero => simp [flCells]
    | succ j =>
      have h1 := ih j (by simpa using h)
      have e : ∀ i, (flCells c ++ r.flatMap flCells)[(j + 1) * 2 + i]? = (r.flatMap flCells)[j * 2 + i]? := fun i => by
        rw [List.getElem?_append_right (by rw [hl]; omega), hl]
        congr 1
        omega
      have e0 := e 0
      have e1 := e 1
      rw [Nat.add_zero, Nat.add_zero] at e0
      rw [e0, e1]
      simpa using h1
/-- The document's files in memory. -/
def FlAt (w : World) (v : Value) (l : Fl) : Prop := w.ownsRow 0 49 2 v l.length (l.flatMap flCells)
/-- The document's changes in memory. -/
def ChAt (w : World) (v : Value) (L : List Chg) : Prop := w.ownsRow 0 66 4 v L.length (L.flatMap chCells)
theorem row_new {w w' : World} {base : Nat} {e : TypeId} {size : Nat} {v : Value} {n : Nat} {xs : List Value} (h : w.ownsRow base e size v n xs) (hb : Below w.heap.size w w') : w'.ownsRow base e size v n xs := row_keep h (Fr.ofBelow hb (fun _ => False)) (fun _ _ h => h)
theorem row_frD {B : Nat} {w w' : World} {base : Nat} {e : TypeId} {size : Nat} {v : Value} {n : Nat} {xs : List Value} (h : w.ownsRow base e size v n xs) (f : FrD B w w') (h1 : e ≠ 60) (h2 : e ≠ 71) : w'.ownsRow base e size v n xs := by
  refine row_keep h f (fun k hk s => ?_)
  obtain ⟨_, c, f', hb⟩ := row_tag h hk
  rcases s.2 with ⟨es, c', hm⟩ | ⟨c', t, f'', hm, ht⟩
  · rw [hb] at hm; cases hm
  · rw [hb] at hm
    cases hm
    rcases ht with ht | ht
    · exact h1 ht
    · exact h2 ht
/-- What lies in a row, from an element on. -/
theorem row_src {w : World} {base : Nat} {e : TypeId} {size : Nat} {g n cap : Nat} {xs : List Value} (h : w.ownsRow base e size (.slice (some ⟨g, 0, none⟩) n cap) n xs) (i : Nat) : ∀ j u, (xs.drop (i * size))[j]? = some u → w.cell? ⟨g, i * size + j, none⟩ = some u := by
  intro j u hu
  rw [List.getElem?_drop] at hu
  have := h.cells (g := g) rfl _ _ hu
  rw [Addr.add_lit] at this
  simpa using this
theorem fl_shape {w : World} {v : Value} {l : Fl} (h : FlAt w v l) : ∃ ao c, v = .slice ao l.length c ∧ l.length ≤ c ∧ (0 < l.length → ∃ g, ao = some ⟨g, 0, none⟩) := by
  rcases h.2 with ⟨h1, h2⟩ | ⟨g, cap, cur, rfl, _, _, h3, _⟩
  · exact ⟨none, 0, by rw [h1, h2], by omega, fun e => by omega⟩
  · exact ⟨_, _, rfl, h3, fun _ => ⟨g, rfl⟩⟩
theorem fl_cells {w : World} {g n cap : Nat} {l : Fl} (h : FlAt w (.slice (some ⟨g, 0, none⟩) n cap) l) (hn : n = l.length) (j : Nat) (hj : j < l.length) : w.cell? ⟨g, j * 2, none⟩ = some (.string (str l[j].1)) ∧ w.cell? ⟨g, j * 2 + 1, none⟩ = some (.string (str l[j].2)) := by
  subst hn
  obtain ⟨a0, a1⟩ := flc_get l j hj
  have h0 := World.ownsRow.cells h (g := g) rfl _ _ a0
  have h1 := World.ownsRow.cells h (g := g) rfl _ _ a1
  rw [Addr.add_lit] at h0 h1
  exact ⟨by simpa using h0, by simpa using h1⟩
end Go.Proofs.Ythpojidkmmflhaa
