import Derived.Test.YtnhjflebaeokeaaGreatVwMapM
/- A master (view.Node) on plain data, and as it lies in memory. -/
namespace Go.Proofs.YtnhjflebaeokeaaGreat
open Go.RowKit Go.Maps
/-- A message. -/
structure VM where
  k : Int
  fr : Int
  tt : Int
  vw : Int
  nm : Int
  ix : Int
  cm : Int
  bi : Int
  bv : Int
  base : ByteArray
  en : List Ent
/-- A message's value, its entries' slice apart. -/
def vmV (m : VM) (ev : Value) : Value := .agg #[.int .i64 m.k, .int .i64 m.fr, .int .i64 m.tt, .int .i64 m.vw, .int .i64 m.nm, .int .i64 m.ix, .int .i64 m.cm, .int .i64 m.bi, .int .i64 m.bv, .string m.base, ev]
/-- A master on plain data. -/
structure Nd where
  me : Int
  all : Int
  vw : Int
  nm : Int
  bi : Int
  bv : Int
  base : ByteArray
  log : List Ent
  cm : Int
  had : Int
  tk : Int
  gave : Bool
  wants : Int → Bool
  given : Int → Option VM
  upTo : Int → Option Int
def Nd.last (A : Nd) : Int := A.bi + A.log.length
def wantsF (f : Int → Bool) (x : Int) : Option Value := if f x then some (.agg #[]) else none
def upF (f : Int → Option Int) (x : Int) : Option Value := (f x).map (Value.int .i64)
/-- Those that were given, in memory; their entries are apart from the log. -/
def GvAt (w : World) (S : Nat → Prop) (b : Nat) (lv : Value) (g : Int → Option VM) : Prop := ∃ f, HMap w b f ∧ ∀ x, match g x with
  | none => f x = none
  | some m => ∃ ev, f x = some (vmV m ev) ∧ EnO w 0 ev m.en ∧ ∀ k, ev.ownBlock = some k → S k ∧ lv.ownBlock ≠ some k
/-- What is done by kinds. -/
def kindF (p : Nat) (x : Int) : Option Value :=
  if x = 1 then some (.func (.func 88) #[.pointer (some ⟨p, 0, none⟩)] #[])
  else if x = 2 then some (.func (.func 89) #[.pointer (some ⟨p, 0, none⟩)] #[])
  else if x = 3 then some (.func (.func 90) #[.pointer (some ⟨p, 0, none⟩)] #[])
  else if x = 4 then some (.func (.func 91) #[.pointer (some ⟨p, 0, none⟩)] #[])
  else if x = 5 then some (.func (.func 92) #[.pointer (some ⟨p, 0, none⟩)] #[])
  else if x = 6 then some (.func (.func 93) #[.pointer (some ⟨p, 0, none⟩)] #[])
  else none
/-- Its numbers have room. -/
structure Nd.ok (A : Nd) : Prop where
  all0 : 1 ≤ A.all
  all1 : A.all ≤ 7
  me0 : 0 ≤ A.me
  me1 : A.me < A.all
  nm0 : 0 ≤ A.nm
  nmv : A.nm ≤ A.vw
  vw1 : A.vw ≤ 2147483647
  bi0 : 0 ≤ A.bi
  bi1 : A.bi ≤ 2147483647
  len : A.log.length ≤ 1000
  cm0 : A.bi ≤ A.cm
  cm1 : A.cm ≤ A.last
  tk0 : 0 ≤ A.tk
def ndCells (A : Nd) (lv : Value) (mw mg mu mk : Nat) : Array Value := #[.int .i64 A.me, .int .i64 A.all, .int .i64 A.vw, .int .i64 A.nm, .int .i64 A.bi, .int .i64 A.bv, .string A.base, lv, .int .i64 A.cm, .int .i64 A.had, .int .i64 A.tk, .bool A.gave, .map (some mw), .map (some mg), .map (some mu), .map (some mk)]
structure NA (w : World) (S : Nat → Prop) (p : Nat) (A : Nd) (lv : Value) (mw mg mu mk : Nat) : Prop where
  blk : w.heap[p]? = some (.cells (ndCells A lv mw mg mu mk) 114 (0, 0))
  log : EnO w 0 lv A.log
  wants : HMap w mw (wantsF A.wants)
  given : GvAt w S mg lv A.given
  upTo : HMap w mu (upF A.upTo)
  kinds : HMap w mk (kindF p)
  sp : S p
  sl : ∀ k, lv.ownBlock = some k → S k
  sw : S mw
  sg : S mg
  su : S mu
  sk : S mk
  wg : mw ≠ mg
  wu : mw ≠ mu
  wk : mw ≠ mk
  gu : mg ≠ mu
  gk : mg ≠ mk
  uk : mu ≠ mk
def NdAt (w : World) (S : Nat → Prop) (p : Nat) (A : Nd) : Prop := ∃ lv mw mg mu mk, NA w S p A lv mw mg mu mk
theorem GvAt.none (w : World) {S : Nat → Prop} {b : Nat} {lv : Value} (h : HMap w b (fun _ => none)) : GvAt w S b lv (fun _ => none) := ⟨_, h, fun _ => rfl⟩
theorem GvAt.kept {w w' : World} {S : Nat → Prop} {b : Nat} {lv : Value} {g : Int → Option VM} (h : GvAt w S b lv g) {U : Nat → Prop} (f : Fr w w' U) (hb : ¬ U b) (hU : ∀ k, U k → S k → k < w.heap.size → lv.ownBlock = some k ∨ ∀ c fz, w.heap[k]? ≠ some (.cells c 106 fz)) : GvAt w' S b lv g := by
  obtain ⟨f0, hf, hg⟩ := h
  refine ⟨f0, hf.kept f hb, fun x => ?_⟩
  have := hg x
  cases e : g x with
  | none => rw [e] at this; exact this
  | some m =>
    rw [e] at this
    obtain ⟨ev, h1, h2, h3⟩ := this
    refine ⟨ev, h1, h2.kept f (fun k hk hu => ?_), h3⟩
    obtain ⟨_, c, fz, ht⟩ := vrow_tag h2 hk
    rcases hU k hu (h3 k hk).1 (vlt_blk ht) with h | h
    · exact (h3 k hk).2 h
    · exact h c fz ht
theorem GvAt.new {w w' : World} {S : Nat → Prop} {b : Nat} {lv : Value} {g : Int → Option VM} (h : GvAt w S b lv g) (hb : Below w.heap.size w w') : GvAt w' S b lv g := h.kept (Fr.ofBelow hb (fun _ => False)) (fun h => h) (fun _ h => h.elim)
theorem GvAt.mono {w : World} {S T : Nat → Prop} {b : Nat} {lv : Value} {g : Int → Option VM} (h : GvAt w S b lv g) (hs : ∀ k, k < w.heap.size → S k → T k) : GvAt w T b lv g := by
  obtain ⟨f0, hf, hg⟩ := h
  refine ⟨f0, hf, fun x => ?_⟩
  have := hg x
  cases e : g x with
  | none => rw [e] at this; exact this
  | some m =>
    rw [e] at this
    obtain ⟨ev, h1, h2, h3⟩ := this
    refine ⟨ev, h1, h2, fun k hk => ⟨hs k ?_ (h3 k hk).1, (h3 k hk).2⟩⟩
    obtain ⟨_, c, fz, ht⟩ := vrow_tag h2 hk
    exact vlt_blk ht
/-- Another log, apart from all that was given. -/
theorem GvAt.move {w w' : World} {S : Nat → Prop} {b : Nat} {lv lv' : Value} {g : Int → Option VM} (h : GvAt w S b lv g) {U : Nat → Prop} (f : Fr w w' U) (hb : ¬ U b) (hU : ∀ k, U k → S k → k < w.heap.size → lv.ownBlock = some k ∨ ∀ c fz, w.heap[k]? ≠ some (.cells c 106 fz)) (hl : ∀ k, lv'.ownBlock = some k → lv.ownBlock = some k ∨ w.heap.size ≤ k) : GvAt w' S b lv' g := by
  obtain ⟨f0, hf, hg⟩ := h
  refine ⟨f0, hf.kept f hb, fun x => ?_⟩
  have := hg x
  cases e : g x with
  | none => rw [e] at this; exact this
  | some m =>
    rw [e] at this
    obtain ⟨ev, h1, h2, h3⟩ := this
    refine ⟨ev, h1, h2.kept f (fun k hk hu => ?_), fun k hk => ⟨(h3 k hk).1, fun e => ?_⟩⟩
    · obtain ⟨_, c, fz, ht⟩ := vrow_tag h2 hk
      rcases hU k hu (h3 k hk).1 (vlt_blk ht) with h | h
      · exact (h3 k hk).2 h
      · exact h c fz ht
    · obtain ⟨_, c, fz, ht⟩ := vrow_tag h2 hk
      have := vlt_blk ht
      rcases hl k e with h | h
      · exact (h3 k hk).2 h
      · omega
section
variable {w w' : World} {S : Nat → Prop} {p : Nat} {A : Nd} {lv : Value} {mw mg mu mk : Nat}
theorem NA.plt (h : NA w S p A lv mw mg mu mk) : p < w.heap.size := vlt_blk h.blk
theorem NA.pmap (h : NA w S p A lv mw mg mu mk) : p ≠ mw ∧ p ≠ mg ∧ p ≠ mu ∧ p ≠ mk := by
  have hg : HMap w mg _ := h.given.choose_spec.1
  refine ⟨?_, ?_, ?_, ?_⟩ <;> intro e <;> subst e
  · obtain ⟨es, c, hb⟩ := h.wants.isMap; rw [h.blk] at hb; cases hb
  · obtain ⟨es, c, hb⟩ := hg.isMap; rw [h.blk] at hb; cases hb
  · obtain ⟨es, c, hb⟩ := h.upTo.isMap; rw [h.blk] at hb; cases hb
  · obtain ⟨es, c, hb⟩ := h.kinds.isMap; rw [h.blk] at hb; cases hb
theorem NA.lrow (h : NA w S p A lv mw mg mu mk) {k : Nat} (hk : lv.ownBlock = some k) : k ≠ p ∧ k ≠ mw ∧ k ≠ mg ∧ k ≠ mu ∧ k ≠ mk := by
  obtain ⟨_, c, f, hb⟩ := vrow_tag h.log hk
  have hg : HMap w mg _ := h.given.choose_spec.1
  refine ⟨?_, ?_, ?_, ?_, ?_⟩ <;> intro e <;> subst e
  · rw [h.blk] at hb; cases hb
  · obtain ⟨es, c, hb'⟩ := h.wants.isMap; rw [hb] at hb'; cases hb'
  · obtain ⟨es, c, hb'⟩ := hg.isMap; rw [hb] at hb'; cases hb'
  · obtain ⟨es, c, hb'⟩ := h.upTo.isMap; rw [hb] at hb'; cases hb'
  · obtain ⟨es, c, hb'⟩ := h.kinds.isMap; rw [hb] at hb'; cases hb'
/-- Blocks that are not the master's are written. -/
theorem NA.kept (h : NA w S p A lv mw mg mu mk) {U : Nat → Prop} (f : Fr w w' U) (hU : ∀ k, k < w.heap.size → U k → ¬ S k) : NA w' S p A lv mw mg mu mk :=
  { h with
    blk := (f.block p h.plt (fun s => hU p h.plt s h.sp)).trans h.blk
    log := h.log.kept f (fun k e s => hU k (by obtain ⟨_, c, f', hb⟩ := vrow_tag h.log e; exact vlt_blk hb) s (h.sl k e))
    wants := h.wants.kept f (fun s => hU _ h.wants.lt s h.sw)
    given := h.given.kept f (fun s => hU _ h.given.choose_spec.1.lt s h.sg) (fun k hu hs hk => absurd hs (hU k hk hu))
    upTo := h.upTo.kept f (fun s => hU _ h.upTo.lt s h.su)
    kinds := h.kinds.kept f (fun s => hU _ h.kinds.lt s h.sk) }
theorem NA.new (h : NA w S p A lv mw mg mu mk) (hb : Below w.heap.size w w') : NA w' S p A lv mw mg mu mk := h.kept (Fr.ofBelow hb (fun _ => False)) (fun _ _ h => h.elim)
theorem NA.mono (h : NA w S p A lv mw mg mu mk) {T : Nat → Prop} (hs : ∀ k, k < w.heap.size → S k → T k) : NA w T p A lv mw mg mu mk :=
  { h with
    given := h.given.mono hs
    sp := hs _ h.plt h.sp
    sl := fun k e => hs k (by obtain ⟨_, c, f', hb⟩ := vrow_tag h.log e; exact vlt_blk hb) (h.sl k e)
    sw := hs _ h.wants.lt h.sw
    sg := hs _ h.given.choose_spec.1.lt h.sg
    su := hs _ h.upTo.lt h.su
    sk := hs _ h.kinds.lt h.sk }
theorem NdAt.new (h : NdAt w S p A) (hb : Below w.heap.size w w') : NdAt w' S p A := by
  obtain ⟨lv, mw, mg, mu, mk, h⟩ := h
  exact ⟨lv, mw, mg, mu, mk, h.new hb⟩
theorem NdAt.kept (h : NdAt w S p A) {U : Nat → Prop} (f : Fr w w' U) (hU : ∀ k, k < w.heap.size → U k → ¬ S k) : NdAt w' S p A := by
  obtain ⟨lv, mw, mg, mu, mk, h⟩ := h
  exact ⟨lv, mw, mg, mu, mk, h.kept f hU⟩
theorem NdAt.mono (h : NdAt w S p A) {T : Nat → Prop} (hs : ∀ k, k < w.heap.size → S k → T k) : NdAt w T p A := by
  obtain ⟨lv, mw, mg, mu, mk, h⟩ := h
  exact ⟨lv, mw, mg, mu, mk, h.mono hs⟩
theorem NA.cells (h : NA w S p A lv mw mg mu mk) : w.cell? ⟨p, 0, none⟩ = some (.int .i64 A.me) ∧ w.cell? ⟨p, 1, none⟩ = some (.int .i64 A.all) ∧ w.cell? ⟨p, 2, none⟩ = some (.int .i64 A.vw) ∧ w.cell? ⟨p, 3, none⟩ = some (.int .i64 A.nm) ∧ w.cell? ⟨p, 4, none⟩ = some (.int .i64 A.bi) ∧ w.cell? ⟨p, 5, none⟩ = some (.int .i64 A.bv) ∧ w.cell? ⟨p, 6, none⟩ = some (.string A.base) ∧ w.cell? ⟨p, 7, none⟩ = some lv ∧ w.cell? ⟨p, 8, none⟩ = some (.int .i64 A.cm) ∧ w.cell? ⟨p, 9, none⟩ = some (.int .i64 A.had) ∧ w.cell? ⟨p, 10, none⟩ = some (.int .i64 A.tk) ∧ w.cell? ⟨p, 11, none⟩ = some (.bool A.gave) ∧ w.cell? ⟨p, 12, none⟩ = some (.map (some mw)) ∧ w.cell? ⟨p, 13, none⟩ = some (.map (some mg)) ∧ w.cell? ⟨p, 14, none⟩ = some (.map (some mu)) ∧ w.cell? ⟨p, 15, none⟩ = some (.map (some mk)) := by
  have := h.blk
  unfold ndCells at this
  simp [World.cell?, this]
theorem NA.free (h : NA w S p A lv mw mg mu mk) : ∀ i, w.frozen? ⟨p, i, none⟩ = false := by
  have := h.blk
  intro i
  simp [World.frozen?, this]
theorem vblk_set {w : World} {g i : Nat} {cs : Array Value} {t : TypeId} (v : Value) (h : w.heap[g]? = some (.cells cs t (0, 0))) : (w.setCell ⟨g, i, none⟩ v).heap[g]? = some (.cells (cs.setIfInBounds i v) t (0, 0)) := by
  have hlt := vlt_blk h
  have h' : w.heap[g] = .cells cs t (0, 0) := by simpa [Array.getElem?_eq_getElem hlt] using h
  show (w.heap.modify g _)[g]? = _
  rw [Array.getElem?_eq_getElem (by simpa using hlt), Array.getElem_modify_self, h']
  rfl
/-- The master's own block is written. -/
theorem NA.setP (h : NA w S p A lv mw mg mu mk) (i : Nat) (v : Value) {A' : Nd} (hc : (ndCells A lv mw mg mu mk).setIfInBounds i v = ndCells A' lv mw mg mu mk) (hl : A'.log = A.log) (hw : A'.wants = A.wants) (hg : A'.given = A.given) (hu : A'.upTo = A.upTo) : NA (w.setCell ⟨p, i, none⟩ v) S p A' lv mw mg mu mk ∧ Fr w (w.setCell ⟨p, i, none⟩ v) (fun k => k = p) := by
  have f : Fr w (w.setCell ⟨p, i, none⟩ v) (fun k => k = p) := Fr.setCell (S := fun k => k = p) w ⟨p, i, none⟩ v rfl
  obtain ⟨p1, p2, p3, p4⟩ := h.pmap
  refine ⟨{ h with blk := ?_, log := ?_, wants := ?_, given := ?_, upTo := ?_, kinds := ?_ }, f⟩
  · rw [← hc]; exact vblk_set v h.blk
  · rw [hl]; exact h.log.kept f (fun k hk e => (h.lrow hk).1 e)
  · rw [hw]; exact h.wants.kept f (fun e => p1 e.symm)
  · rw [hg]; exact h.given.kept f (fun e => p2 e.symm) (fun k hk _ _ => .inr (fun c fz e => by subst hk; rw [h.blk] at e; cases e))
  · rw [hu]; exact h.upTo.kept f (fun e => p3 e.symm)
  · exact h.kinds.kept f (fun e => p4 e.symm)
end
end Go.Proofs.YtnhjflebaeokeaaGreat
