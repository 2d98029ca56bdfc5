import Derived.Test.YtnhjflebaeokeaaGreatNumM
import Derived.Test.YtnhjflebaeokeaaGreatStrM
import Derived.Test.YtnhjflebaeokeaaGreatProg
import Derived.Maps.AppendAt
import Derived.WalkKit
import Derived.OwnWalk
import Derived.Below
/- Entries of a log in memory: rows that can be read, rows of one's own, appends; a piece of a list as a list of its own (view.cut). -/
namespace Go.Proofs.YtnhjflebaeokeaaGreat
open Go.RowKit
/-- An entry. -/
structure Ent where
  v : Int
  s : ByteArray
def enc (e : Ent) : List Value := [.int .i64 e.v, .string e.s]
theorem enc_len (l : List Ent) : (l.flatMap enc).length = l.length * 2 := by
  induction l with
  | nil => rfl
  | cons c r ih => rw [List.flatMap_cons, List.length_append, ih]; simp [enc]; omega
theorem enc_one (l : List Ent) : ∀ u ∈ l.flatMap enc, u.oneCell' = true := by
  intro u hu
  obtain ⟨p, _, hp⟩ := List.mem_flatMap.1 hu
  simp only [enc, List.mem_cons, List.not_mem_nil, or_false] at hp
  rcases hp with rfl | rfl <;> rfl
theorem enc_get (l : List Ent) (j : Nat) (h : j < l.length) : (l.flatMap enc)[j * 2]? = some (.int .i64 l[j].v) ∧ (l.flatMap enc)[j * 2 + 1]? = some (.string l[j].s) := by
  induction l generalizing j with
  | nil => simp at h
  | cons c r ih =>
    rw [List.flatMap_cons]
    have hl : (enc c).length = 2 := rfl
    cases j with
    | zero => simp [enc]
    | succ j =>
      have h1 := ih j (by simpa using h)
      have e : ∀ i, (enc c ++ r.flatMap enc)[(j + 1) * 2 + i]? = (r.flatMap enc)[j * 2 + i]? := fun i => by
        rw [List.getElem?_append_right (by rw [hl]; omega), hl]
        congr 1
        omega
      have e0 := e 0
      have e1 := e 1
      rw [Nat.add_zero, Nat.add_zero] at e0
      rw [e0, e1]
      simpa using h1
theorem vlt_blk {w : World} {k : Nat} {o : Obj} (h : w.heap[k]? = some o) : k < w.heap.size := (Array.getElem?_eq_some_iff.1 h).1
theorem vlt_cell {w : World} {b o : Nat} {u : Value} (h : w.cell? ⟨b, o, none⟩ = some u) : b < w.heap.size := World.block_lt_of_cell? w ⟨b, o, none⟩ h
theorem vfr_cell {w w' : World} {S : Nat → Prop} (f : Fr w w' S) {b o : Nat} {u : Value} (hb : ¬ S b) (h : w.cell? ⟨b, o, none⟩ = some u) : w'.cell? ⟨b, o, none⟩ = some u :=
  (World.cell?_of_block (a := ⟨b, o, none⟩) (f.block b (vlt_cell h) hb)).trans h
theorem vone_new (w : World) (x : Obj) : Below w.heap.size w (w.alloc x) := (Below.refl _ _).alloc (Nat.le_refl _) _
theorem vcell_blk {w : World} {b i : Nat} {cs : Array Value} {t : TypeId} (h : w.heap[b]? = some (.cells cs t (0, 0))) : w.cell? ⟨b, i, none⟩ = cs[i]? := by simp [World.cell?, h]
theorem vrow_keep {w w' : World} {base : Nat} {e : TypeId} {size : Nat} {v : Value} {n : Nat} {xs : List Value} {S : Nat → Prop} (h : w.ownsRow base e size v n xs) (f : Fr w w' S) (hS : ∀ k, v.ownBlock = some k → ¬ S k) : w'.ownsRow base e size v n xs := by
  refine ⟨h.1, ?_⟩
  rcases h.2 with h2 | ⟨g, cap, cur, rfl, h3, h4, h5⟩
  · exact Or.inl h2
  · exact Or.inr ⟨g, cap, cur, rfl, h3, (f.block g (vlt_blk h4) (hS g rfl)).trans h4, h5⟩
theorem vrow_tag {w : World} {base : Nat} {e : TypeId} {size : Nat} {v : Value} {n : Nat} {xs : List Value} (h : w.ownsRow base e size v n xs) {k : Nat} (hk : v.ownBlock = some k) : base ≤ k ∧ ∃ c f, w.heap[k]? = some (.cells c e f) := by
  rcases h.2 with ⟨h2, _⟩ | ⟨g, cap, cur, rfl, h3, h4, h5⟩
  · rw [h2] at hk; cases hk
  · cases hk
    exact ⟨h3, _, _, h4⟩
/-- Entries that can be read. -/
def EnS (w : World) (v : Value) (L : List Ent) : Prop := ∃ ao cap, v = .slice ao L.length cap ∧ L.length ≤ cap ∧ (0 < L.length → ∃ b off, ao = some ⟨b, off, none⟩ ∧ ∀ j (h : j < L.length), w.cell? ⟨b, off + j * 2, none⟩ = some (.int .i64 L[j].v) ∧ w.cell? ⟨b, off + j * 2 + 1, none⟩ = some (.string L[j].s))
/-- Entries in a row of one's own. -/
def EnO (w : World) (B : Nat) (v : Value) (L : List Ent) : Prop := w.ownsRow B 106 2 v L.length (L.flatMap enc)
theorem EnO.shape {w : World} {B : Nat} {v : Value} {L : List Ent} (h : EnO w B v L) : ∃ ao c, v = .slice ao L.length c ∧ L.length ≤ c ∧ (0 < L.length → ∃ g, ao = some ⟨g, 0, none⟩) := by
  rcases h.2 with ⟨h1, h2⟩ | ⟨g, cap, cur, rfl, _, _, h3, _⟩
  · exact ⟨none, 0, by rw [h1, h2], by omega, fun e => by omega⟩
  · exact ⟨_, _, rfl, h3, fun _ => ⟨g, rfl⟩⟩
theorem EnO.at_ {w : World} {B g n cap : Nat} {L : List Ent} (h : EnO w B (.slice (some ⟨g, 0, none⟩) n cap) L) (j : Nat) (hj : j < L.length) : w.cell? ⟨g, j * 2, none⟩ = some (.int .i64 L[j].v) ∧ w.cell? ⟨g, j * 2 + 1, none⟩ = some (.string L[j].s) := by
  obtain ⟨ao, c, e, _⟩ := h.shape
  cases e
  obtain ⟨a0, a1⟩ := enc_get L j hj
  have h0 := World.ownsRow.cells h (g := g) rfl _ _ a0
  have h1 := World.ownsRow.cells h (g := g) rfl _ _ a1
  rw [Addr.add_lit] at h0 h1
  exact ⟨by simpa using h0, by simpa using h1⟩
theorem EnO.toS {w : World} {B : Nat} {v : Value} {L : List Ent} (h : EnO w B v L) : EnS w v L := by
  obtain ⟨ao, c, rfl, hc, hg⟩ := h.shape
  refine ⟨ao, c, rfl, hc, fun h0 => ?_⟩
  obtain ⟨g, rfl⟩ := hg h0
  exact ⟨g, 0, rfl, fun j hj => by simpa using h.at_ j hj⟩
theorem EnO.nil (w : World) (B : Nat) : EnO w B (.slice none 0 0) [] := World.ownsRow_nil _ _ _ _
theorem EnO.kept {w w' : World} {B : Nat} {v : Value} {L : List Ent} (h : EnO w B v L) {S : Nat → Prop} (f : Fr w w' S) (hS : ∀ k, v.ownBlock = some k → ¬ S k) : EnO w' B v L := vrow_keep h f hS
theorem EnO.new {w w' : World} {B : Nat} {v : Value} {L : List Ent} (h : EnO w B v L) (hb : Below w.heap.size w w') : EnO w' B v L := h.kept (Fr.ofBelow hb (fun _ => False)) (fun _ _ h => h)
theorem EnO.low {w : World} {B C : Nat} {v : Value} {L : List Ent} (h : EnO w B v L) (hC : C ≤ B) : EnO w C v L := by
  refine ⟨h.1, ?_⟩
  rcases h.2 with h2 | ⟨g, cap, cur, rfl, h3, h4⟩
  · exact .inl h2
  · exact .inr ⟨g, cap, cur, rfl, Nat.le_trans hC h3, h4⟩
theorem EnS.new {w w' : World} {v : Value} {L : List Ent} (h : EnS w v L) (hb : Below w.heap.size w w') : EnS w' v L := by
  obtain ⟨ao, cap, rfl, h1, h2⟩ := h
  refine ⟨ao, cap, rfl, h1, fun h0 => ?_⟩
  obtain ⟨b, off, e, h3⟩ := h2 h0
  exact ⟨b, off, e, fun j hj => ⟨(hb.cell (p := ⟨b, off + j * 2, none⟩) (vlt_cell (h3 j hj).1)).trans (h3 j hj).1, (hb.cell (p := ⟨b, off + j * 2 + 1, none⟩) (vlt_cell (h3 j hj).1)).trans (h3 j hj).2⟩⟩
theorem EnS.shape {w : World} {v : Value} {L : List Ent} (h : EnS w v L) : ∃ ao c, v = .slice ao L.length c ∧ L.length ≤ c := by
  obtain ⟨ao, c, e, h1, _⟩ := h
  exact ⟨ao, c, e, h1⟩
theorem run_append_noneV {P : Program} (w : World) (t ty e : TypeId) (i : TypeInfo) (ht : P.underlying t = some (.slice e)) (hi : P.info? e = some i) (base bo : Option Addr) (n c c2 : Nat) (hle : n ≤ c) :
    (Builtin.append_ #[t, t] ty #[.slice base n c, .slice bo 0 c2]).run P w = .ok (.slice base n c) w := by
  cases base <;> cases bo <;> simp [Builtin.append_, run_underlying ht, sizeOf, typeInfo, hi, hle, storeCells, loadCells, loadCellsFrom, Builtin.lenOf, Builtin.firstCells]
theorem infoV : ∃ i, Tryz.prog.info? 106 = some i ∧ i.zero = some (.agg #[.int .i64 0, .string (str [])]) ∧ i.size = 2 ∧ i.bytes = 24 := by
  cases h : Tryz.prog.info? 106 with
  | none =>
    have : (Tryz.prog.info? 106).isSome = true := by kernel_rfl
    rw [h] at this
    cases this
  | some i =>
    have h1 : (Tryz.prog.info? 106).map (·.zero) = some (some (.agg #[.int .i64 0, .string (str [])])) := by kernel_rfl
    have h2 : (Tryz.prog.info? 106).map (·.size) = some 2 := by kernel_rfl
    have h3 : (Tryz.prog.info? 106).map (·.bytes) = some 24 := by kernel_rfl
    rw [h] at h1 h2 h3
    exact ⟨i, rfl, by simpa using h1, by simpa using h2, by simpa using h3⟩
/-- Entries put behind entries of one's own. -/
theorem run_appV {w : World} {B : Nat} {v x : Value} {R S : List Ent} (hv : EnO w B v R) (hx : EnS w x S) (hl : R.length + S.length ≤ 2000000000) (hB : B ≤ w.heap.size) (ty : TypeId) : ∃ v' w', (Builtin.append_ #[57, 57] ty #[v, x]).run Tryz.prog w = .ok v' w' ∧ EnO w' B v' (R ++ S) ∧ Fr w w' (fun k => v.ownBlock = some k) ∧ (∀ k, v'.ownBlock = some k → v.ownBlock = some k ∨ w.heap.size ≤ k) := by
  obtain ⟨i, hi, hz, hsize, hby⟩ := infoV
  have ht := Tryz.underlying57
  obtain ⟨ao, c, rfl, hc, hs⟩ := hx
  by_cases hm : 0 < S.length
  · obtain ⟨b, o, rfl, hcell⟩ := hs hm
    have hsrc : ∀ j u, (S.flatMap enc)[j]? = some u → w.cell? ((⟨b, o, none⟩ : Addr).add j) = some u := fun j u hu => by
      rw [Addr.add_lit]
      have hj : j < S.length * 2 := by
        have := (List.getElem?_eq_some_iff.1 hu).1
        rwa [enc_len] at this
      obtain ⟨e0, e1⟩ := enc_get S (j / 2) (by omega)
      obtain ⟨c0, c1⟩ := hcell (j / 2) (by omega)
      by_cases h2 : j % 2 = 0
      · have e : j / 2 * 2 = j := by omega
        rw [e] at e0 c0
        rw [e0] at hu
        rw [c0]
        exact hu
      · have e : j / 2 * 2 + 1 = j := by omega
        rw [e] at e1
        rw [Nat.add_assoc, e] at c1
        rw [e1] at hu
        rw [c1]
        exact hu
    obtain ⟨v', w', hr, h2, h3, _, h5⟩ := run_append_own_at (P := Tryz.prog) w B 57 ty 106 i _ 2 24 ht hi hz hsize hby rfl (by decide) v R.length (R.flatMap enc) hv ⟨b, o, none⟩ S.length c (S.flatMap enc) (enc_len S) hsrc (enc_one S) (by unfold maxLen; omega) (by omega) hB
    refine ⟨v', w', hr, ?_, Fr.grown h3 (fun k e => e), fun k hk => ?_⟩
    · unfold EnO
      rw [List.length_append, List.flatMap_append]
      exact h2
    · rcases h5 with h5 | h5
      · exact .inl (h5.symm.trans hk)
      · rw [h5] at hk; cases hk; exact .inr (Nat.le_refl _)
  · have e0 : S = [] := List.length_eq_zero_iff.1 (by omega)
    subst e0
    obtain ⟨bo, cc, rfl, hcc, _⟩ := hv.shape
    refine ⟨_, _, run_append_noneV w _ ty _ i ht hi bo ao R.length cc c hcc, ?_, Fr.refl _ _, fun k hk => .inl hk⟩
    rw [List.append_nil]
    exact hv
theorem op_appV {o : Oper} {a : Act} {w : World} {K : Act → World → Prop} {Q : Exit → Act → World → Prop} {s x : Operand} (hop : o.op = .call { callee := .builtin .append, args := #[s, x], argTypes := #[57, 57] })
    {B : Nat} {v xv : Value} {R S : List Ent} (hs : a.eval s = v) (hx : a.eval x = xv) (hv : EnO w B v R) (hS : EnS w xv S) (hl : R.length + S.length ≤ 2000000000) (hB : B ≤ w.heap.size)
    (h : ∀ v' w', EnO w' B v' (R ++ S) → Fr w w' (fun k => v.ownBlock = some k) → (∀ k, v'.ownBlock = some k → v.ownBlock = some k ∨ w.heap.size ≤ k) → K (a.put o.dst v') w') : o.wp Tryz.prog a w K Q := by
  obtain ⟨v', w', hr, h2, h3, h5⟩ := run_appV hv hS hl hB o.type
  unfold Oper.wp execOp
  simp only [hop, resolve, invoke, builtin, Sem.run_bind, Sem.run_pure, Result.andThen_ok, List.map_toArray, List.map_cons, List.map_nil, hs, hx, hr]
  exact h v' w' h2 h3 h5
theorem wpl_appV {ops : Array Oper} {rest : List Oper} {o : Oper} {a : Act} {w : World} {Q : Exit → Act → World → Prop} (hgd : o.guard = none) {s x : Operand} (hop : o.op = .call { callee := .builtin .append, args := #[s, x], argTypes := #[57, 57] })
    {B : Nat} {v xv : Value} {R S : List Ent} (hs : a.eval s = v) (hx : a.eval x = xv) (hv : EnO w B v R) (hS : EnS w xv S) (hl : R.length + S.length ≤ 2000000000) (hB : B ≤ w.heap.size)
    (h : ∀ v' w', EnO w' B v' (R ++ S) → Fr w w' (fun k => v.ownBlock = some k) → (∀ k, v'.ownBlock = some k → v.ownBlock = some k ∨ w.heap.size ≤ k) → wpList Tryz.prog ops Q rest (a.put o.dst v') w') : wpList Tryz.prog ops Q (o :: rest) a w :=
  wpList_plain hgd fun _ hK => op_appV hop hs hx hv hS hl hB (fun v' w' h2 h3 h5 => hK _ _ (h v' w' h2 h3 h5))
theorem stp_appV {ops : Array Oper} {o : Oper} {a : Act} {w : World} {K : Act → World → Prop} {Q : Exit → Act → World → Prop} {E : Prop} (hgd : o.guard = none) (s x : Operand) (hop : o.op = .call { callee := .builtin .append, args := #[s, x], argTypes := #[57, 57] })
    {B : Nat} {v xv : Value} {R S : List Ent} (hs : a.eval s = v) (hx : a.eval x = xv) (hv : EnO w B v R) (hS : EnS w xv S) (hl : R.length + S.length ≤ 2000000000) (hB : B ≤ w.heap.size)
    (h : ∀ v' w', EnO w' B v' (R ++ S) → Fr w w' (fun k => v.ownBlock = some k) → (∀ k, v'.ownBlock = some k → v.ownBlock = some k ∨ w.heap.size ≤ k) → K (a.put o.dst v') w') : if Region.wanted o (yielded ops a.tmps) = true then Oper.wp Tryz.prog o a w K Q else E := by
  have hw : Region.wanted o (yielded ops a.tmps) = true := by simp [Region.wanted, hgd]
  rw [if_pos hw]
  exact op_appV hop hs hx hv hS hl hB h
/-- Where a slice from an index on begins. -/
def subV (go : Option Addr) (gc at_ : Nat) : Option Addr := if gc = at_ then go else go.map fun a => ⟨a.block, a.off + at_ * 2, none⟩
theorem EnS.sub {w : World} {ao : Option Addr} {n cap : Nat} {L : List Ent} (h : EnS w (.slice ao n cap) L) (a b c : Nat) (hab : a ≤ b) (hb : b ≤ L.length) (hc : b ≤ c) : EnS w (.slice (subV ao c a) (b - a) (c - a)) ((L.take b).drop a) := by
  obtain ⟨ao', cap', e, h1, h2⟩ := h
  cases e
  have hl : ((L.take b).drop a).length = b - a := by rw [List.length_drop, List.length_take]; omega
  refine ⟨_, _, by rw [hl], by rw [hl]; omega, fun h0 => ?_⟩
  rw [hl] at h0
  obtain ⟨g, off, rfl, hcell⟩ := h2 (by omega)
  refine ⟨g, off + a * 2, ?_, fun j hj => ?_⟩
  · unfold subV
    rw [if_neg (by omega)]
    rfl
  · rw [hl] at hj
    have := hcell (a + j) (by omega)
    rw [List.getElem_drop, List.getElem_take]
    rw [show off + a * 2 + j * 2 = off + (a + j) * 2 by omega]
    exact this
end Go.Proofs.YtnhjflebaeokeaaGreat
