/- Requests of sessions in memory: rows of three cells; appends; a copy of three-celled elements. -/
import Derived.Test.YtdnakakichblgaaNum
import Derived.Test.YtdnakakichblgaaSsM
import Derived.Test.YtdnakakichblgaaProg
import Derived.Maps.AppendAt
import Derived.WalkKit
import Derived.OwnWalk
import Derived.Below
import Derived.Laws.CopyRow
namespace Go.Proofs.Ytdnakakichblgaa
open Go.RowKit
def rq (e : Req) : List Value := [.int .i64 e.k, .int .i64 e.n, .string e.s]
theorem rq_len (l : List Req) : (l.flatMap rq).length = l.length * 3 := by
  induction l with
  | nil => rfl
  | cons c r ih => rw [List.flatMap_cons, List.length_append, ih]; simp [rq]; omega
theorem rq_one (l : List Req) : ∀ u ∈ l.flatMap rq, u.oneCell' = true := by
  intro u hu
  obtain ⟨p, _, hp⟩ := List.mem_flatMap.1 hu
  simp only [rq, List.mem_cons, List.not_mem_nil, or_false] at hp
  rcases hp with rfl | rfl | rfl <;> rfl
theorem rq_get (l : List Req) (j : Nat) (h : j < l.length) : (l.flatMap rq)[j * 3]? = some (.int .i64 l[j].k) ∧ (l.flatMap rq)[j * 3 + 1]? = some (.int .i64 l[j].n) ∧ (l.flatMap rq)[j * 3 + 2]? = some (.string l[j].s) := by
  induction l generalizing j with
  | nil => simp at h
  | cons c r ih =>
    rw [List.flatMap_cons]
    have hl : (rq c).length = 3 := rfl
    cases j with
    | zero => simp [rq]
    | succ j =>
      have h1 := ih j (by simpa using h)
      have e : ∀ i, (rq c ++ r.flatMap rq)[(j + 1) * 3 + i]? = (r.flatMap rq)[j * 3 + i]? := fun i => by
        rw [List.getElem?_append_right (by rw [hl]; omega), hl]
        congr 1
        omega
      have e0 := e 0
      have e1 := e 1
      have e2 := e 2
      rw [Nat.add_zero, Nat.add_zero] at e0
      rw [e0, e1, e2]
      simpa using h1
theorem rq_take (l : List Req) (j : Nat) : (l.flatMap rq).take (j * 3) = (l.take j).flatMap rq := by
  induction l generalizing j with
  | nil => simp
  | cons c r ih =>
    cases j with
    | zero => simp
    | succ j =>
      rw [List.flatMap_cons, List.take_succ_cons, List.flatMap_cons, ← ih j, List.take_append]
      have hl : (rq c).length = 3 := rfl
      rw [hl, List.take_of_length_le (by rw [hl]; omega), show (j + 1) * 3 - 3 = j * 3 by omega]
theorem rq_drop (l : List Req) (j : Nat) : (l.flatMap rq).drop (j * 3) = (l.drop j).flatMap rq := by
  induction l generalizing j with
  | nil => simp
  | cons c r ih =>
    cases j with
    | zero => simp
    | succ j =>
      rw [List.flatMap_cons, List.drop_succ_cons, ← ih j, List.drop_append]
      have hl : (rq c).length = 3 := rfl
      rw [hl, List.drop_of_length_le (by rw [hl]; omega), show (j + 1) * 3 - 3 = j * 3 by omega, List.nil_append]
theorem slt_blk {w : World} {k : Nat} {o : Obj} (h : w.heap[k]? = some o) : k < w.heap.size := (Array.getElem?_eq_some_iff.1 h).1
theorem slt_cell {w : World} {b o : Nat} {u : Value} (h : w.cell? ⟨b, o, none⟩ = some u) : b < w.heap.size := World.block_lt_of_cell? w ⟨b, o, none⟩ h
theorem sfr_cell {w w' : World} {S : Nat → Prop} (f : Fr w w' S) {b o : Nat} {u : Value} (hb : ¬ S b) (h : w.cell? ⟨b, o, none⟩ = some u) : w'.cell? ⟨b, o, none⟩ = some u :=
  (World.cell?_of_block (a := ⟨b, o, none⟩) (f.block b (slt_cell h) hb)).trans h
theorem sone_new (w : World) (x : Obj) : Below w.heap.size w (w.alloc x) := (Below.refl _ _).alloc (Nat.le_refl _) _
theorem srow_keep {w w' : World} {base : Nat} {e : TypeId} {size : Nat} {v : Value} {n : Nat} {xs : List Value} {S : Nat → Prop} (h : w.ownsRow base e size v n xs) (f : Fr w w' S) (hS : ∀ k, v.ownBlock = some k → ¬ S k) : w'.ownsRow base e size v n xs := by
  refine ⟨h.1, ?_⟩
  rcases h.2 with h2 | ⟨g, cap, cur, rfl, h3, h4, h5⟩
  · exact Or.inl h2
  · exact Or.inr ⟨g, cap, cur, rfl, h3, (f.block g (slt_blk h4) (hS g rfl)).trans h4, h5⟩
theorem srow_tag {w : World} {base : Nat} {e : TypeId} {size : Nat} {v : Value} {n : Nat} {xs : List Value} (h : w.ownsRow base e size v n xs) {k : Nat} (hk : v.ownBlock = some k) : base ≤ k ∧ ∃ c f, w.heap[k]? = some (.cells c e f) := by
  rcases h.2 with ⟨h2, _⟩ | ⟨g, cap, cur, rfl, h3, h4, h5⟩
  · rw [h2] at hk; cases hk
  · cases hk
    exact ⟨h3, _, _, h4⟩
/-- Requests that can be read. -/
def RqS (w : World) (v : Value) (L : List Req) : Prop := ∃ ao cap, v = .slice ao L.length cap ∧ L.length ≤ cap ∧ (0 < L.length → ∃ b off, ao = some ⟨b, off, none⟩ ∧ ∀ j (h : j < L.length), w.cell? ⟨b, off + j * 3, none⟩ = some (.int .i64 L[j].k) ∧ w.cell? ⟨b, off + j * 3 + 1, none⟩ = some (.int .i64 L[j].n) ∧ w.cell? ⟨b, off + j * 3 + 2, none⟩ = some (.string L[j].s))
/-- Requests in a row of one's own. -/
def RqO (e : TypeId) (w : World) (B : Nat) (v : Value) (L : List Req) : Prop := w.ownsRow B e 3 v L.length (L.flatMap rq)
section
variable {e : TypeId} {w w' : World} {B : Nat} {v : Value} {L : List Req}
theorem RqO.shape (h : RqO e w B v L) : ∃ ao c, v = .slice ao L.length c ∧ L.length ≤ c ∧ (0 < L.length → ∃ g, ao = some ⟨g, 0, none⟩) := by
  rcases h.2 with ⟨h1, h2⟩ | ⟨g, cap, cur, rfl, _, _, h3, _⟩
  · exact ⟨none, 0, by rw [h1, h2], by omega, fun e => by omega⟩
  · exact ⟨_, _, rfl, h3, fun _ => ⟨g, rfl⟩⟩
theorem RqO.at_ {g n cap : Nat} (h : RqO e w B (.slice (some ⟨g, 0, none⟩) n cap) L) (j : Nat) (hj : j < L.length) : w.cell? ⟨g, j * 3, none⟩ = some (.int .i64 L[j].k) ∧ w.cell? ⟨g, j * 3 + 1, none⟩ = some (.int .i64 L[j].n) ∧ w.cell? ⟨g, j * 3 + 2, none⟩ = some (.string L[j].s) := by
  obtain ⟨ao, c, e, _⟩ := h.shape
  cases e
  obtain ⟨a0, a1, a2⟩ := rq_get L j hj
  have h0 := World.ownsRow.cells h (g := g) rfl _ _ a0
  have h1 := World.ownsRow.cells h (g := g) rfl _ _ a1
  have h2 := World.ownsRow.cells h (g := g) rfl _ _ a2
  rw [Addr.add_lit] at h0 h1 h2
  exact ⟨by simpa using h0, by simpa using h1, by simpa using h2⟩
theorem RqO.toS (h : RqO e w B v L) : RqS w v L := by
  obtain ⟨ao, c, rfl, hc, hg⟩ := h.shape
  refine ⟨ao, c, rfl, hc, fun h0 => ?_⟩
  obtain ⟨g, rfl⟩ := hg h0
  exact ⟨g, 0, rfl, fun j hj => by simpa using h.at_ j hj⟩
theorem RqO.nil (e : TypeId) (w : World) (B : Nat) : RqO e w B (.slice none 0 0) [] := World.ownsRow_nil _ _ _ _
theorem RqO.kept (h : RqO e w B v L) {S : Nat → Prop} (f : Fr w w' S) (hS : ∀ k, v.ownBlock = some k → ¬ S k) : RqO e w' B v L := srow_keep h f hS
theorem RqO.new (h : RqO e w B v L) (hb : Below w.heap.size w w') : RqO e w' B v L := h.kept (Fr.ofBelow hb (fun _ => False)) (fun _ _ h => h)
theorem RqO.lt (h : RqO e w B v L) : ∀ k, v.ownBlock = some k → B ≤ k ∧ k < w.heap.size := World.ownsRow.lt h
theorem RqS.new (h : RqS w v L) (hb : Below w.heap.size w w') : RqS w' v L := by
  obtain ⟨ao, cap, rfl, h1, h2⟩ := h
  refine ⟨ao, cap, rfl, h1, fun h0 => ?_⟩
  obtain ⟨b, off, e, h3⟩ := h2 h0
  exact ⟨b, off, e, fun j hj => ⟨(hb.cell (p := ⟨b, off + j * 3, none⟩) (slt_cell (h3 j hj).1)).trans (h3 j hj).1, (hb.cell (p := ⟨b, off + j * 3 + 1, none⟩) (slt_cell (h3 j hj).1)).trans (h3 j hj).2.1, (hb.cell (p := ⟨b, off + j * 3 + 2, none⟩) (slt_cell (h3 j hj).1)).trans (h3 j hj).2.2⟩⟩
end
/-- The one of a new cell of three. -/
theorem RqS.one {w : World} {g : Nat} {x : Req} {t : TypeId} {f : Nat × Nat} (h : w.heap[g]? = some (.cells #[.int .i64 x.k, .int .i64 x.n, .string x.s] t f)) (c : Nat) (hc : 1 ≤ c) : RqS w (.slice (some ⟨g, 0, none⟩) 1 c) [x] := by
  refine ⟨_, _, rfl, hc, fun _ => ⟨g, 0, rfl, fun j hj => ?_⟩⟩
  have : j = 0 := by simp at hj; exact hj
  subst this
  simp [World.cell?, h]
/-- A type of requests, and that of its slices. -/
structure RqT (t e : TypeId) : Prop where
  sl : Try.prog.underlying t = some (.slice e)
  info : ∃ i, Try.prog.info? e = some i ∧ i.zero = some (.agg #[.int .i64 0, .int .i64 0, .string (str [])]) ∧ i.size = 3 ∧ i.bytes = 32
theorem rqT_asked : RqT 56 60 := by
  refine ⟨Try.underlying56, ?_⟩
  cases h : Try.prog.info? 60 with
  | none =>
    have : (Try.prog.info? 60).isSome = true := by kernel_rfl
    rw [h] at this
    cases this
  | some i =>
    have h1 : (Try.prog.info? 60).map (·.zero) = some (some (.agg #[.int .i64 0, .int .i64 0, .string (str [])])) := by kernel_rfl
    have h2 : (Try.prog.info? 60).map (·.size) = some 3 := by kernel_rfl
    have h3 : (Try.prog.info? 60).map (·.bytes) = some 32 := by kernel_rfl
    rw [h] at h1 h2 h3
    exact ⟨i, rfl, by simpa using h1, by simpa using h2, by simpa using h3⟩
theorem rqT_last : RqT 26 39 := by
  refine ⟨Try.underlying26, ?_⟩
  cases h : Try.prog.info? 39 with
  | none =>
    have : (Try.prog.info? 39).isSome = true := by kernel_rfl
    rw [h] at this
    cases this
  | some i =>
    have h1 : (Try.prog.info? 39).map (·.zero) = some (some (.agg #[.int .i64 0, .int .i64 0, .string (str [])])) := by kernel_rfl
    have h2 : (Try.prog.info? 39).map (·.size) = some 3 := by kernel_rfl
    have h3 : (Try.prog.info? 39).map (·.bytes) = some 32 := by kernel_rfl
    rw [h] at h1 h2 h3
    exact ⟨i, rfl, by simpa using h1, by simpa using h2, by simpa using h3⟩
theorem run_append_noneQ {P : Program} (w : World) (t ty e : TypeId) (i : TypeInfo) (ht : P.underlying t = some (.slice e)) (hi : P.info? e = some i) (base bo : Option Addr) (n c c2 : Nat) (hle : n ≤ c) :
    (Builtin.append_ #[t, t] ty #[.slice base n c, .slice bo 0 c2]).run P w = .ok (.slice base n c) w := by
  cases base <;> cases bo <;> simp [Builtin.append_, run_underlying ht, sizeOf, typeInfo, hi, hle, storeCells, loadCells, loadCellsFrom, Builtin.lenOf, Builtin.firstCells]
theorem rq_src {w : World} {b o : Nat} {R : List Req} (hcell : ∀ j (h : j < R.length), w.cell? ⟨b, o + j * 3, none⟩ = some (.int .i64 R[j].k) ∧ w.cell? ⟨b, o + j * 3 + 1, none⟩ = some (.int .i64 R[j].n) ∧ w.cell? ⟨b, o + j * 3 + 2, none⟩ = some (.string R[j].s)) :
    ∀ j u, (R.flatMap rq)[j]? = some u → w.cell? ⟨b, o + j, none⟩ = some u := fun j u hu => by
  have hj : j < R.length * 3 := by
    have := (List.getElem?_eq_some_iff.1 hu).1
    rwa [rq_len] at this
  obtain ⟨e0, e1, e2⟩ := rq_get R (j / 3) (by omega)
  obtain ⟨c0, c1, c2⟩ := hcell (j / 3) (by omega)
  have h3 : j % 3 = 0 ∨ j % 3 = 1 ∨ j % 3 = 2 := by omega
  rcases h3 with h3 | h3 | h3
  · have e : j / 3 * 3 = j := by omega
    rw [e] at e0 c0
    rw [e0] at hu
    rw [c0]
    exact hu
  · have e : j / 3 * 3 + 1 = j := by omega
    rw [e] at e1
    rw [Nat.add_assoc, e] at c1
    rw [e1] at hu
    rw [c1]
    exact hu
  · have e : j / 3 * 3 + 2 = j := by omega
    rw [e] at e2
    rw [Nat.add_assoc, e] at c2
    rw [e2] at hu
    rw [c2]
    exact hu
/-- Requests put behind requests of one's own. -/
theorem run_appQ {t e : TypeId} (ht : RqT t e) {w : World} {B : Nat} {v x : Value} {R S : List Req} (hv : RqO e w B v R) (hx : RqS w x S) (hl : R.length + S.length ≤ 2000000000) (hB : B ≤ w.heap.size) (ty : TypeId) : ∃ v' w', (Builtin.append_ #[t, t] ty #[v, x]).run Try.prog w = .ok v' w' ∧ RqO e w' B v' (R ++ S) ∧ Fr w w' (fun k => v.ownBlock = some k) ∧ Row w v v' := by
  obtain ⟨i, hi, hz, hsize, hby⟩ := ht.info
  obtain ⟨ao, c, rfl, hc, hs⟩ := hx
  by_cases hm : 0 < S.length
  · obtain ⟨b, o, rfl, hcell⟩ := hs hm
    obtain ⟨v', w', hr, h2, h3, _, h5⟩ := run_append_own_at (P := Try.prog) w B t ty e i _ 3 32 ht.sl hi hz hsize hby rfl (by decide) v R.length (R.flatMap rq) hv ⟨b, o, none⟩ S.length c (S.flatMap rq) (rq_len S) (fun j u hu => by rw [Addr.add_lit]; exact rq_src hcell j u hu) (rq_one S) (by unfold maxLen; omega) (by omega) hB
    refine ⟨v', w', hr, ?_, Fr.grown h3 (fun k e => e), ?_⟩
    · unfold RqO
      rw [List.length_append, List.flatMap_append]
      exact h2
    · rcases h5 with h5 | h5
      · exact .inl h5
      · exact .inr ⟨_, h5, Nat.le_refl _⟩
  · have e0 : S = [] := List.length_eq_zero_iff.1 (by omega)
    subst e0
    obtain ⟨bo, cc, rfl, hcc, _⟩ := hv.shape
    refine ⟨_, _, run_append_noneQ w _ ty _ i ht.sl hi bo ao R.length cc c hcc, ?_, Fr.refl _ _, Row.refl _ _⟩
    rw [List.append_nil]
    exact hv
theorem op_appQ {t e : TypeId} (ht : RqT t e) {o : Oper} {a : Act} {w : World} {K : Act → World → Prop} {Q : Exit → Act → World → Prop} {s x : Operand} (hop : o.op = .call { callee := .builtin .append, args := #[s, x], argTypes := #[t, t] })
    {B : Nat} {v xv : Value} {R S : List Req} (hs : a.eval s = v) (hx : a.eval x = xv) (hv : RqO e w B v R) (hS : RqS w xv S) (hl : R.length + S.length ≤ 2000000000) (hB : B ≤ w.heap.size)
    (h : ∀ v' w', RqO e w' B v' (R ++ S) → Fr w w' (fun k => v.ownBlock = some k) → Row w v v' → K (a.put o.dst v') w') : o.wp Try.prog a w K Q := by
  obtain ⟨v', w', hr, h2, h3, h5⟩ := run_appQ ht hv hS hl hB o.type
  unfold Oper.wp execOp
  simp only [hop, resolve, invoke, builtin, Sem.run_bind, Sem.run_pure, Result.andThen_ok, List.map_toArray, List.map_cons, List.map_nil, hs, hx, hr]
  exact h v' w' h2 h3 h5
theorem wpl_appQ {t e : TypeId} (ht : RqT t e) {ops : Array Oper} {rest : List Oper} {o : Oper} {a : Act} {w : World} {Q : Exit → Act → World → Prop} (hgd : o.guard = none) {s x : Operand} (hop : o.op = .call { callee := .builtin .append, args := #[s, x], argTypes := #[t, t] })
    {B : Nat} {v xv : Value} {R S : List Req} (hs : a.eval s = v) (hx : a.eval x = xv) (hv : RqO e w B v R) (hS : RqS w xv S) (hl : R.length + S.length ≤ 2000000000) (hB : B ≤ w.heap.size)
    (h : ∀ v' w', RqO e w' B v' (R ++ S) → Fr w w' (fun k => v.ownBlock = some k) → Row w v v' → wpList Try.prog ops Q rest (a.put o.dst v') w') : wpList Try.prog ops Q (o :: rest) a w :=
  wpList_plain hgd fun _ hK => op_appQ ht hop hs hx hv hS hl hB (fun v' w' h2 h3 h5 => hK _ _ (h v' w' h2 h3 h5))
theorem stp_appQ {t e : TypeId} (ht : RqT t e) {ops : Array Oper} {o : Oper} {a : Act} {w : World} {K : Act → World → Prop} {Q : Exit → Act → World → Prop} {E : Prop} (hgd : o.guard = none) (s x : Operand) (hop : o.op = .call { callee := .builtin .append, args := #[s, x], argTypes := #[t, t] })
    {B : Nat} {v xv : Value} {R S : List Req} (hs : a.eval s = v) (hx : a.eval x = xv) (hv : RqO e w B v R) (hS : RqS w xv S) (hl : R.length + S.length ≤ 2000000000) (hB : B ≤ w.heap.size)
    (h : ∀ v' w', RqO e w' B v' (R ++ S) → Fr w w' (fun k => v.ownBlock = some k) → Row w v v' → K (a.put o.dst v') w') : if Region.wanted o (yielded ops a.tmps) = true then Oper.wp Try.prog o a w K Q else E := by
  have hw : Region.wanted o (yielded ops a.tmps) = true := by simp [Region.wanted, hgd]
  rw [if_pos hw]
  exact op_appQ ht hop hs hx hv hS hl hB h
/-- copy of elements of three cells. -/
theorem run_copyQ {P : Program} (w : World) (dT sT ty elem : TypeId) (g o dLen dCap : Nat) (a : Addr) (sLen sCap : Nat) (cur : Array Value) (t : TypeId) (cs : List Value)
    (hu : P.underlying dT = some (.slice elem)) (hs : (P.info? elem).map (·.size) = some 3)
    (hg : w.heap[g]? = some (.cells cur t (0, 0))) (hn : cs.length = Nat.min sLen dLen * 3)
    (hsrc : ∀ j v, cs[j]? = some v → w.cell? (a.add j) = some v) (hfit : o + cs.length ≤ cur.size) (h1 : ∀ v ∈ cs, v.oneCell' = true) :
    (Builtin.copy_ #[dT, sT] ty #[.slice (some ⟨g, o, none⟩) dLen dCap, .slice (some a) sLen sCap]).run P w =
      .ok (goInt (Nat.min sLen dLen)) (w.setRow g (cur.toList.take o ++ cs ++ cur.toList.drop (o + cs.length)).toArray) := by
  have hl := run_loadCells_list (P := P) w a cs hsrc
  have hst := run_storeCells_at P g o t cs 0 cur w hg (by simpa using hfit) h1
  cases hq : P.info? elem with
  | none => simp [hq] at hs
  | some i =>
    have hi : i.size = 3 := by simpa [hq] using hs
    simp [Builtin.copy_, run_underlying hu, Builtin.lenOf, Builtin.firstCells, sizeOf, typeInfo, hq, hi, ← hn, hl, hst]
end Go.Proofs.Ytdnakakichblgaa
