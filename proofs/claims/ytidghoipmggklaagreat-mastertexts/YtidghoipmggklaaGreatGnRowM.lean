import Derived.Test.YtidghoipmggklaaGreatNumM
import Derived.Test.YtidghoipmggklaaGreatProg
import Derived.Maps.AppendAt
import Derived.WalkKit
import Derived.OwnWalk
import Derived.Below
/- Rows of elements of any make in memory: rows that can be read, rows of one's own, appends. -/
namespace Go.Proofs.YtidghoipmggklaaGreat
open Go.RowKit
theorem glt_blk {w : World} {k : Nat} {o : Obj} (h : w.heap[k]? = some o) : k < w.heap.size := (Array.getElem?_eq_some_iff.1 h).1
theorem glt_cell {w : World} {b o : Nat} {u : Value} (h : w.cell? ⟨b, o, none⟩ = some u) : b < w.heap.size := World.block_lt_of_cell? w ⟨b, o, none⟩ h
theorem gone_new (w : World) (x : Obj) : Below w.heap.size w (w.alloc x) := (Below.refl _ _).alloc (Nat.le_refl _) _
theorem gnew_cell {w w' : World} (hb : Below w.heap.size w w') {b o : Nat} {u : Value} (h : w.cell? ⟨b, o, none⟩ = some u) : w'.cell? ⟨b, o, none⟩ = some u := (hb.cell (p := ⟨b, o, none⟩) (glt_cell h)).trans h
/-- How elements lie in cells: a slice's type, its elements' type, how many cells and bytes one takes. -/
structure GT {α : Type} (enc : α → List Value) (size bytes : Nat) (t e : TypeId) : Prop where
  sl : Tryz.prog.underlying t = some (.slice e)
  info : ∃ i z, Tryz.prog.info? e = some i ∧ i.zero = some z ∧ i.size = size ∧ i.bytes = bytes ∧ z.cells.size = size
  len : ∀ x, (enc x).length = size
  one : ∀ x, ∀ u ∈ enc x, u.oneCell' = true
  pos : 0 < size
  small : 0 < bytes
section
variable {α : Type} {enc : α → List Value} {size bytes : Nat} {t e : TypeId}
theorem genc_len (hl : ∀ x, (enc x).length = size) : ∀ l : List α, (l.flatMap enc).length = l.length * size
  | [] => by simp
  | c :: r => by rw [List.flatMap_cons, List.length_append, genc_len hl r, hl, List.length_cons, Nat.add_mul, Nat.one_mul, Nat.add_comm]
theorem genc_one (h : ∀ x, ∀ u ∈ enc x, u.oneCell' = true) (l : List α) : ∀ u ∈ l.flatMap enc, u.oneCell' = true := by
  intro u hu
  obtain ⟨p, _, hp⟩ := List.mem_flatMap.1 hu
  exact h p u hp
theorem genc_get (hl : ∀ x, (enc x).length = size) : ∀ (l : List α) (j : Nat) (h : j < l.length) (i : Nat), i < size → (l.flatMap enc)[j * size + i]? = (enc l[j])[i]?
  | [], j, h, i, hi => by simp at h
  | c :: r, 0, h, i, hi => by
    rw [List.flatMap_cons, Nat.zero_mul, Nat.zero_add, List.getElem?_append_left (by rw [hl]; exact hi)]
    rfl
  | c :: r, j + 1, h, i, hi => by
    rw [List.flatMap_cons, List.getElem?_append_right (by rw [hl, Nat.add_mul]; omega), hl, show (j + 1) * size + i - size = j * size + i by rw [Nat.add_mul]; omega, genc_get hl r j (by simpa using h) i hi]
    rfl
/-- Elements that can be read. -/
def GS (enc : α → List Value) (w : World) (v : Value) (L : List α) : Prop := ∃ ao cap, v = .slice ao L.length cap ∧ L.length ≤ cap ∧ (0 < L.length → ∃ b off, ao = some ⟨b, off, none⟩ ∧ ∀ j u, (L.flatMap enc)[j]? = some u → w.cell? ⟨b, off + j, none⟩ = some u)
/-- Elements in a row of one's own. -/
def GO (enc : α → List Value) (size : Nat) (e : TypeId) (w : World) (B : Nat) (v : Value) (L : List α) : Prop := w.ownsRow B e size v L.length (L.flatMap enc)
variable {w w' : World} {B : Nat} {v : Value} {L : List α}
theorem GO.shape (h : GO enc size e w B v L) : ∃ ao c, v = .slice ao L.length c ∧ L.length ≤ c ∧ (0 < L.length → ∃ g, ao = some ⟨g, 0, none⟩) := by
  rcases h.2 with ⟨h1, h2⟩ | ⟨g, cap, cur, rfl, _, _, h3, _⟩
  · exact ⟨none, 0, by rw [h1, h2], by omega, fun e => by omega⟩
  · exact ⟨_, _, rfl, h3, fun _ => ⟨g, rfl⟩⟩
theorem GO.raw {g n cap : Nat} (h : GO enc size e w B (.slice (some ⟨g, 0, none⟩) n cap) L) : ∀ j u, (L.flatMap enc)[j]? = some u → w.cell? ⟨g, j, none⟩ = some u := by
  intro j u hu
  obtain ⟨ao, c, e, _⟩ := h.shape
  cases e
  have := World.ownsRow.cells h (g := g) rfl _ _ hu
  rw [Addr.add_lit] at this
  simpa using this
theorem GO.at_ (hl : ∀ x, (enc x).length = size) {g n cap : Nat} (h : GO enc size e w B (.slice (some ⟨g, 0, none⟩) n cap) L) (j : Nat) (hj : j < L.length) (i : Nat) (hi : i < size) {u : Value} (hu : (enc L[j])[i]? = some u) : w.cell? ⟨g, j * size + i, none⟩ = some u :=
  h.raw _ _ ((genc_get hl L j hj i hi).trans hu)
theorem GO.toS (h : GO enc size e w B v L) : GS enc w v L := by
  obtain ⟨ao, c, rfl, hc, hg⟩ := h.shape
  refine ⟨ao, c, rfl, hc, fun h0 => ?_⟩
  obtain ⟨g, rfl⟩ := hg h0
  exact ⟨g, 0, rfl, fun j u hu => by rw [Nat.zero_add]; exact h.raw j u hu⟩
theorem GO.nil (enc : α → List Value) (size : Nat) (e : TypeId) (w : World) (B : Nat) : GO enc size e w B (.slice none 0 0) [] := World.ownsRow_nil _ _ _ _
theorem GO.kept (h : GO enc size e w B v L) {S : Nat → Prop} (f : Fr w w' S) (hS : ∀ k, v.ownBlock = some k → ¬ S k) : GO enc size e w' B v L := by
  refine ⟨h.1, ?_⟩
  rcases h.2 with h2 | ⟨g, cap, cur, rfl, h3, h4, h5⟩
  · exact Or.inl h2
  · exact Or.inr ⟨g, cap, cur, rfl, h3, (f.block g (glt_blk h4) (hS g rfl)).trans h4, h5⟩
theorem GO.new (h : GO enc size e w B v L) (hb : Below w.heap.size w w') : GO enc size e w' B v L := h.kept (Fr.ofBelow hb (fun _ => False)) (fun _ _ h => h)
theorem GO.lt (h : GO enc size e w B v L) : ∀ k, v.ownBlock = some k → B ≤ k ∧ k < w.heap.size := World.ownsRow.lt h
theorem GO.lower (h : GO enc size e w B v L) {C : Nat} (hC : C ≤ B) : GO enc size e w C v L := by
  refine ⟨h.1, ?_⟩
  rcases h.2 with h2 | ⟨g, cap, cur, rfl, h3, h4⟩
  · exact .inl h2
  · exact .inr ⟨g, cap, cur, rfl, by omega, h4⟩
theorem GO.made {g : Nat} (h : w.heap[g]? = some (.cells #[] e (0, 0))) : GO enc size e w g (.slice (some ⟨g, 0, none⟩) 0 0) [] := ⟨by simp, .inr ⟨g, 0, #[], rfl, Nat.le_refl _, h, Nat.le_refl _, by simp, by simp, by simp⟩⟩
theorem GS.new (h : GS enc w v L) (hb : Below w.heap.size w w') : GS enc w' v L := by
  obtain ⟨ao, cap, rfl, h1, h2⟩ := h
  refine ⟨ao, cap, rfl, h1, fun h0 => ?_⟩
  obtain ⟨b, off, e, h3⟩ := h2 h0
  exact ⟨b, off, e, fun j u hu => gnew_cell hb (h3 j u hu)⟩
theorem GS.shape (h : GS enc w v L) : ∃ ao c, v = .slice ao L.length c ∧ L.length ≤ c := by
  obtain ⟨ao, c, e, hc, _⟩ := h
  exact ⟨ao, c, e, hc⟩
theorem GS.at_ (hl : ∀ x, (enc x).length = size) {ao : Option Addr} {n cap : Nat} (h : GS enc w (.slice ao n cap) L) (j : Nat) (hj : j < L.length) : ∃ b off, ao = some ⟨b, off, none⟩ ∧ ∀ i u, i < size → (enc L[j])[i]? = some u → w.cell? ⟨b, off + (j * size + i), none⟩ = some u := by
  obtain ⟨ao', c, e, _, h2⟩ := h
  cases e
  obtain ⟨b, off, rfl, hc⟩ := h2 (by omega)
  exact ⟨b, off, rfl, fun i u hi hu => hc _ _ ((genc_get hl L j hj i hi).trans hu)⟩
theorem GS.one {g : Nat} {x : α} {cs : Array Value} {ty : TypeId} {f : Nat × Nat} (h : w.heap[g]? = some (.cells cs ty f)) (hc : cs.toList = enc x) (c : Nat) (h1 : 1 ≤ c) : GS enc w (.slice (some ⟨g, 0, none⟩) 1 c) [x] := by
  refine ⟨_, _, rfl, h1, fun _ => ⟨g, 0, rfl, fun j u hu => ?_⟩⟩
  rw [List.flatMap_cons, List.flatMap_nil, List.append_nil, ← hc] at hu
  rw [Nat.zero_add]
  simpa [World.cell?, h] using hu
theorem run_append_noneG {P : Program} (w : World) (t ty e : TypeId) (i : TypeInfo) (ht : P.underlying t = some (.slice e)) (hi : P.info? e = some i) (base bo : Option Addr) (n c c2 : Nat) (hle : n ≤ c) :
    (Builtin.append_ #[t, t] ty #[.slice base n c, .slice bo 0 c2]).run P w = .ok (.slice base n c) w := by
  cases base <;> cases bo <;> simp [Builtin.append_, run_underlying ht, sizeOf, typeInfo, hi, hle, storeCells, loadCells, loadCellsFrom, Builtin.lenOf, Builtin.firstCells]
/-- Elements put behind elements of one's own. -/
theorem run_appG (ht : GT enc size bytes t e) {x : Value} {R S : List α} (hv : GO enc size e w B v R) (hx : GS enc w x S) (hl : (R.length + S.length) * bytes ≤ 140737488355328) (hB : B ≤ w.heap.size) (ty : TypeId) : ∃ v' w', (Builtin.append_ #[t, t] ty #[v, x]).run Tryz.prog w = .ok v' w' ∧ GO enc size e w' B v' (R ++ S) ∧ Fr w w' (fun k => v.ownBlock = some k) ∧ Row w v v' := by
  obtain ⟨i, z, hi, hz, hsize, hby, hzs⟩ := ht.info
  have hm1 : R.length + S.length ≤ 140737488355328 := Nat.le_trans (Nat.le_mul_of_pos_right _ ht.small) hl
  obtain ⟨ao, c, rfl, hc, hs⟩ := hx
  by_cases hm : 0 < S.length
  · obtain ⟨b, o, rfl, hcell⟩ := hs hm
    obtain ⟨v', w', hr, h2, h3, _, h5⟩ := run_append_own_at (P := Tryz.prog) w B t ty e i z size bytes ht.sl hi hz hsize hby hzs ht.pos v R.length (R.flatMap enc) hv ⟨b, o, none⟩ S.length c (S.flatMap enc) (genc_len ht.len S) (fun j u hu => by rw [Addr.add_lit]; exact hcell j u hu) (genc_one ht.one S) (by unfold maxLen; omega) hl hB
    refine ⟨v', w', hr, ?_, Fr.grown h3 (fun k e => e), ?_⟩
    · unfold GO
      rw [List.length_append, List.flatMap_append]
      exact h2
    · rcases h5 with h5 | h5
      · exact .inl h5
      · exact .inr ⟨_, h5, Nat.le_refl _⟩
  · have e0 : S = [] := List.length_eq_zero_iff.1 (by omega)
    subst e0
    obtain ⟨bo, cc, rfl, hcc, _⟩ := hv.shape
    refine ⟨_, _, run_append_noneG w _ ty _ i ht.sl hi bo ao R.length cc c hcc, ?_, Fr.refl _ _, Row.refl _ _⟩
    rw [List.append_nil]
    exact hv
theorem op_appG (ht : GT enc size bytes t e) {o : Oper} {a : Act} {K : Act → World → Prop} {Q : Exit → Act → World → Prop} {s x : Operand} (hop : o.op = .call { callee := .builtin .append, args := #[s, x], argTypes := #[t, t] })
    {xv : Value} {R S : List α} (hs : a.eval s = v) (hx : a.eval x = xv) (hv : GO enc size e w B v R) (hS : GS enc w xv S) (hl : (R.length + S.length) * bytes ≤ 140737488355328) (hB : B ≤ w.heap.size)
    (h : ∀ v' w', GO enc size e w' B v' (R ++ S) → Fr w w' (fun k => v.ownBlock = some k) → Row w v v' → K (a.put o.dst v') w') : o.wp Tryz.prog a w K Q := by
  obtain ⟨v', w', hr, h2, h3, h5⟩ := run_appG ht hv hS hl hB o.type
  unfold Oper.wp execOp
  simp only [hop, resolve, invoke, builtin, Sem.run_bind, Sem.run_pure, Result.andThen_ok, List.map_toArray, List.map_cons, List.map_nil, hs, hx, hr]
  exact h v' w' h2 h3 h5
theorem wpl_appG (ht : GT enc size bytes t e) {ops : Array Oper} {rest : List Oper} {o : Oper} {a : Act} {Q : Exit → Act → World → Prop} (hgd : o.guard = none) {s x : Operand} (hop : o.op = .call { callee := .builtin .append, args := #[s, x], argTypes := #[t, t] })
    {xv : Value} {R S : List α} (hs : a.eval s = v) (hx : a.eval x = xv) (hv : GO enc size e w B v R) (hS : GS enc w xv S) (hl : (R.length + S.length) * bytes ≤ 140737488355328) (hB : B ≤ w.heap.size)
    (h : ∀ v' w', GO enc size e w' B v' (R ++ S) → Fr w w' (fun k => v.ownBlock = some k) → Row w v v' → wpList Tryz.prog ops Q rest (a.put o.dst v') w') : wpList Tryz.prog ops Q (o :: rest) a w :=
  wpList_plain hgd fun _ hK => op_appG ht hop hs hx hv hS hl hB (fun v' w' h2 h3 h5 => hK _ _ (h v' w' h2 h3 h5))
end
/-- An integer in its cell. -/
def ie (x : Int) : List Value := [.int .i64 x]
theorem ie_len (x : Int) : (ie x).length = 1 := rfl
theorem ie_map (L : List Int) : L.flatMap ie = L.map (Value.int .i64) := by
  induction L with
  | nil => rfl
  | cons c r ih => rw [List.flatMap_cons, ih]; rfl
theorem gT_int : GT ie 1 8 67 3 := by
  refine ⟨Tryz.underlying67, ?_, ie_len, fun x u hu => by simp only [ie, List.mem_singleton] at hu; subst hu; rfl, by decide, by decide⟩
  cases h : Tryz.prog.info? 3 with
  | none =>
    have : (Tryz.prog.info? 3).isSome = true := by kernel_rfl
    rw [h] at this
    cases this
  | some i =>
    have h1 : (Tryz.prog.info? 3).map (·.zero) = some (some (.int .i64 0)) := by kernel_rfl
    have h2 : (Tryz.prog.info? 3).map (·.size) = some 1 := by kernel_rfl
    have h3 : (Tryz.prog.info? 3).map (·.bytes) = some 8 := by kernel_rfl
    rw [h] at h1 h2 h3
    exact ⟨i, _, rfl, by simpa using h1, by simpa using h2, by simpa using h3, rfl⟩
/-- Integers that can be read; integers in a row of one's own. -/
def IS (w : World) (v : Value) (L : List Int) : Prop := GS ie w v L
def IO_ (w : World) (B : Nat) (v : Value) (L : List Int) : Prop := GO ie 1 3 w B v L
theorem IS.at_ {w : World} {ao : Option Addr} {n cap : Nat} {L : List Int} (h : IS w (.slice ao n cap) L) (j : Nat) (hj : j < L.length) : ∃ b off, ao = some ⟨b, off, none⟩ ∧ w.cell? ⟨b, off + j, none⟩ = some (.int .i64 L[j]) := by
  obtain ⟨b, off, e, hc⟩ := GS.at_ ie_len h j hj
  exact ⟨b, off, e, by simpa using hc 0 _ (by decide) rfl⟩
theorem IO_.at_ {w : World} {B g n cap : Nat} {L : List Int} (h : IO_ w B (.slice (some ⟨g, 0, none⟩) n cap) L) (j : Nat) (hj : j < L.length) : w.cell? ⟨g, j, none⟩ = some (.int .i64 L[j]) := by
  have := GO.at_ ie_len h j hj 0 (by decide) (u := .int .i64 L[j]) rfl
  simpa using this
end Go.Proofs.YtidghoipmggklaaGreat
