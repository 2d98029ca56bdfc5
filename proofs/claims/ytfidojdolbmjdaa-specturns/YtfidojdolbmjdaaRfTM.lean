import Derived.RangeFuncIn
import Derived.RangeFuncRecord
import Derived.RangeFuncKeeps
import Derived.RangeFuncLeaves
import Derived.ControlIn
import Derived.Test.YtfidojdolbmjdaaNumM
/- A range over a function, where the rounds own blocks (T), the one that is ranged over leaves those alone, and owes a fact of the world on what it yields. -/
namespace Go.Proofs.Ytfidojdolbmjdaa
open Go.RowKit
/-- What speaks of blocks below B and of those in T alone. -/
def Stands {β : Type} (B : Nat) (J : β → (Nat → Prop) → World → Prop) : Prop := ∀ s T W W', J s T W → Fr W W' (fun k => B ≤ k ∧ ¬ T k) → J s T W'
/-- T grows by new blocks alone. -/
def Grows (W W' : World) (T T' : Nat → Prop) : Prop := ∀ k, T' k → T k ∨ (W.heap.size ≤ k ∧ k < W'.heap.size)
theorem Grows.refl (W W' : World) (T : Nat → Prop) : Grows W W' T T := fun _ h => .inl h
theorem Fr.putObj {W : World} {l : Nat} (o : Obj) {S : Nat → Prop} (h : S l) : Fr W (W.putObj l o) S :=
  ⟨rfl, rfl, rfl, by simp [World.putObj], fun k _ hn => World.putObj_heap_other (fun e => hn (e ▸ h))⟩
/-- A call of yield, at any depth. -/
def YieldW (P : Program) (l : Nat) (args : Array Value) (W : World) (R : Ending → World → Prop) : Prop := ∀ m, YieldAt Fence.wide m P l args W R
theorem YieldW.mono {P : Program} {l : Nat} {args : Array Value} {W : World} {R R' : Ending → World → Prop} (h : YieldW P l args W R) (hr : ∀ e w, R e w → R' e w) : YieldW P l args W R' := fun m => by
  obtain ⟨fn, tmps, assign, body, hy, hR⟩ := h m
  exact ⟨fn, tmps, assign, body, hy, hR.mono hr⟩
/-- What a function that is ranged over does with the rounds: O are its own blocks, Px is owed at each yield. -/
def SeqT {α : Type} (P : Program) (g : Nat) (lb : Array Value) (encs : α → Array Value) (Px : α → (Nat → Prop) → World → Prop) (S Sp : List α → Prop) (O : Nat → Prop) (w : World) : Prop :=
  ∀ (l : Nat) (J Jx : List α → (Nat → Prop) → World → Prop) (T0 : Nat → Prop) (W : World), Below w.heap.size w W → w.heap.size ≤ l → l < W.heap.size → (∀ k, T0 k → k < W.heap.size ∧ ¬ O k) → Stands W.heap.size J → Stands W.heap.size Jx →
    (∀ pre T x W1, J pre T W1 → Px x T W1 → Sp (pre ++ [x]) → YieldW P l (encs x) W1 fun e W' =>
      ∃ T', Grows W1 W' T T' ∧ ((e = .returned (.bool true) ∧ Fr W1 W' T ∧ J (pre ++ [x]) T' W') ∨ (e = .returned (.bool false) ∧ Fr W1 W' (fun k => T k ∨ k < W.heap.size) ∧ Jx (pre ++ [x]) T' W'))) →
    J [] T0 W →
    Calls P g (#[.func (.yield l) #[] #[]] ++ lb) W fun e W' => (∃ v, e = .returned v) ∧ ((∃ xs T, S xs ∧ J xs T W') ∨ (∃ pre T, Sp pre ∧ Jx pre T W'))
/-- How a round's body may be left. -/
def postT {α : Type} (B : Nat) (T : Nat → Prop) (I : List α → (Nat → Prop) → World → Prop) (Ix : Code → List α → (Nat → Prop) → World → Prop) (xs : List α) (W : World) : Exit → Act → World → Prop
  | .normal, _, W' => ∃ T', Fr W W' T ∧ Grows W W' T T' ∧ I xs T' W'
  | .ret, _, W' => ∃ T', Fr W W' (fun k => T k ∨ k < B) ∧ Grows W W' T T' ∧ Ix .ret xs T' W'
  | .exit id, _, W' => ∃ T', Fr W W' (fun k => T k ∨ k < B) ∧ Grows W W' T T' ∧ Ix (.exit id) xs T' W'
  | .goto t, _, W' => ∃ T', Fr W W' (fun k => T k ∨ k < B) ∧ Grows W W' T T' ∧ Ix (.goto t) xs T' W'
  | .panic _, _, _ => False
  | .outgrown, _, _ => False
/-- The range. -/
theorem wpIn_rangeT {α : Type} {P : Program} {n : Nat} {g : Operand} {ps : Array Tmp} {assign body : Code} {Q : Exit → Act → World → Prop} {a : Act} {w : World}
    {gf : Nat} {lb : Array Value} (hg : a.eval g = .func (.func gf) #[] lb) (eg : ∀ args w, (callFunc gf args).run P w = .ok (.enter gf args) w)
    {encs : α → Array Value} {Px : α → (Nat → Prop) → World → Prop} {S Sp : List α → Prop} {O : Nat → Prop} {w0 : World} (hseq : SeqT P gf lb encs Px S Sp O w0) (hb0 : Below w0.heap.size w0 w) (hps : ∀ x, (encs x).size = ps.size)
    (I : List α → (Nat → Prop) → World → Prop) (Ix : Code → List α → (Nat → Prop) → World → Prop) (hI : Stands w.heap.size I) (hIx : ∀ c, Stands w.heap.size (Ix c)) (T0 : Nat → Prop) (hT0 : ∀ k, T0 k → k < w.heap.size ∧ ¬ O k) (h0 : I [] T0 w)
    (hround : ∀ (m l : Nat) (pre : List α) (T : Nat → Prop) (x : α) (W : World), w.heap.size ≤ l → (∃ r, W.heap[l]? = some (.loop r)) → ¬ T l → I pre T W → Px x T W → Sp (pre ++ [x]) →
      assign.wpIn (Fence.wide.inRound l) m P (Exit.then (fun a' W' => Fr W W' (fun _ => False) ∧ ∀ W'', Fr W' W'' (fun k => k = l) → body.wpIn (Fence.wide.inRound l) m P (postT w.heap.size T I Ix (pre ++ [x]) W'') a' W'') (fun _ _ _ => False))
        { tmps := (ps.zip (encs x)).foldl (fun t (p, v) => t.setIfInBounds p v) a.tmps, defers := [] } W)
    (hdone : ∀ (D : Nat) (xs : List α) (T : Nat → Prop) (W : World), w.heap.size ≤ D → S xs → I xs T W → ¬ T D → W.heap[D]? = some (.deferred (some [])) → Q .normal { a with defers := { target := .collected D, args := #[] } :: a.defers } W)
    (hstop : ∀ (D : Nat) (c : Code) (pre : List α) (T : Nat → Prop) (W : World), w.heap.size ≤ D → Sp pre → Ix c pre T W → ¬ T D → W.heap[D]? = some (.deferred (some [])) → c.wpIn Fence.wide n P Q { a with defers := { target := .collected D, args := #[] } :: a.defers } W) :
    (Code.rangeFunc g ps assign body).wpIn Fence.wide n P Q a w := by
  refine wpIn_rangeFunc ?_
  intro fn hfn
  obtain ⟨rec, hrec⟩ : ∃ rec : LoopState → Option Code → Loop, rec = fun st pe => { state := st, pending := pe, fn, tmps := a.tmps, params := ps, assign, body, defers := w.heap.size } := ⟨_, rfl⟩
  obtain ⟨L, hL⟩ : ∃ L, w.heap.size + 1 = L := ⟨_, rfl⟩
  obtain ⟨W1, hW1⟩ : ∃ W1, (w.alloc (.deferred (some []))).alloc (.loop (rec .ready none)) = W1 := ⟨_, rfl⟩
  have hL1 : W1.heap[L]? = some (.loop (rec .ready none)) := by
    rw [← hW1, ← hL]; have := World.alloc_heap_new (w.alloc (.deferred (some []))) (.loop (rec .ready none)); rwa [World.size_alloc] at this
  have hK1 : W1.heap[w.heap.size]? = some (.deferred (some [])) := by
    rw [← hW1]; exact (Below.heap_alloc _ _ _ (by simp)).trans (World.alloc_heap_new w _)
  have hf1 : Below w.heap.size w W1 := by rw [← hW1]; exact ((Below.refl _ w).alloc (Nat.le_refl _) _).alloc (by simp) _
  have hs1 : W1.heap.size = L + 1 := by rw [← hW1, ← hL]; simp
  have hI1 : I [] T0 W1 := hI _ _ _ _ h0 (Fr.ofBelow hf1 _)
  refine ⟨L, [{ target := .collected w.heap.size, args := #[] }], W1, { target := .fn (.func gf) lb, args := #[.func (.yield L) #[] #[]] }, W1, gf, #[.func (.yield L) #[] #[]] ++ lb, W1, ?_, ?_, fun _ _ => trivial, ?_, fun h => by simp [Fence.wide] at h, callsIn_wide.2 ?_⟩
  · rw [← hW1, ← hL, hrec]; exact run_enterLoop_outer _ _ _ _ _
  · simp only [resolve, hg]
    simp [go_sem]
  · simp [invoke, go_sem, eg]
  · have keep : ∀ {A B : World} {T : Nat → Prop} {k : Nat} {o : Obj}, A.heap[k]? = some o → Fr A B (fun k => W1.heap.size ≤ k ∧ ¬ T k) → k < W1.heap.size → B.heap[k]? = some o := fun ho f hk => (f.block _ (Array.getElem?_eq_some_iff.1 ho).1 (by omega)).trans ho
    refine (hseq L
      (fun pre T W => I pre T W ∧ W.heap[L]? = some (.loop (rec .ready none)) ∧ W.heap[w.heap.size]? = some (.deferred (some [])) ∧ ¬ T L ∧ ¬ T w.heap.size)
      (fun pre T W => ∃ c, Ix c pre T W ∧ W.heap[L]? = some (.loop (rec .done (some c))) ∧ W.heap[w.heap.size]? = some (.deferred (some [])) ∧ ¬ T L ∧ ¬ T w.heap.size)
      T0 W1 (hb0.trans (hf1.mono hb0.size)) (by have := hb0.size; omega) (by omega) (fun k hk => ⟨by have := (hT0 k hk).1; omega, (hT0 k hk).2⟩)
      (fun s T A B hs f => ⟨hI s T A B hs.1 (f.mono (fun i _ hi => ⟨by have := hi.1; omega, hi.2⟩)), keep hs.2.1 f (by omega), keep hs.2.2.1 f (by omega), hs.2.2.2⟩)
      (fun s T A B hs f => by
        obtain ⟨c, h1, h2, h3, h4⟩ := hs
        exact ⟨c, hIx c s T A B h1 (f.mono (fun i _ hi => ⟨by have := hi.1; omega, hi.2⟩)), keep h2 f (by omega), keep h3 f (by omega), h4⟩)
      ?_ ⟨hI1, hL1, hK1, fun h => by have := (hT0 _ h).1; omega, fun h => by have := (hT0 _ h).1; omega⟩).mono ?_
    · rintro pre T x W ⟨hi, hl, hk, hTL, hTD⟩ hpx hlen m
      have hy := run_yield (P := P) (args := encs x) hl (by rw [hrec]; exact hps x)
      rw [hrec] at hy
      refine ⟨fn, _, assign, body, hy, roundIn_of_wpIn hfn (wpIn_mono (hround m L pre T x W (by omega) ⟨_, hl⟩ hTL hi hpx hlen) ?_)⟩
      clear hy
      intro e a' Wa he
      cases e with
      | normal =>
        obtain ⟨fa, hbody⟩ := he
        have hla := (fa.block _ (Array.getElem?_eq_some_iff.1 hl).1 (fun h => h)).trans hl
        have hka := (fa.block _ (Array.getElem?_eq_some_iff.1 hk).1 (fun h => h)).trans hk
        have hlt : L < Wa.heap.size := (Array.getElem?_eq_some_iff.1 hla).1
        refine ⟨_, run_beginRound hla (by rw [hrec]), ?_⟩
        obtain ⟨Wb, hWb⟩ : ∃ Wb, Wa.putObj L (.loop { rec .ready none with state := .busy }) = Wb := ⟨_, rfl⟩
        have fb : Fr Wa Wb (fun k => k = L) := by rw [← hWb]; exact Fr.putObj _ rfl
        have hlb : Wb.heap[L]? = some (.loop { rec .ready none with state := .busy }) := by rw [← hWb]; exact World.putObj_heap_same hlt
        have hkb : Wb.heap[w.heap.size]? = some (.deferred (some [])) := (fb.block _ (Array.getElem?_eq_some_iff.1 hka).1 (by omega)).trans hka
        rw [hWb]
        refine wpIn_mono (hbody Wb fb) ?_
        have fin : ∀ (jump : Option Code) (T' : Nat → Prop) (W3 : World), Fr Wb W3 (fun k => T k ∨ k < w.heap.size) → Grows Wb W3 T T' → ∃ W4, (Instr.endRound L jump).run P W3 = .ok (.bool jump.isNone) W4 ∧ W4.heap[L]? = some (.loop (rec (if jump.isNone then .ready else .done) jump)) ∧ W4.heap[w.heap.size]? = some (.deferred (some [])) ∧ Fr W3 W4 (fun k => w.heap.size ≤ k ∧ ¬ T' k) ∧ Fr W3 W4 (fun k => k = L) ∧ Grows W W4 T T' ∧ ¬ T' L ∧ ¬ T' w.heap.size := by
          intro jump T' W3 f3 g3
          have hl3 := (f3.block _ (Array.getElem?_eq_some_iff.1 hlb).1 (fun h => h.elim hTL (by omega))).trans hlb
          have hk3 := (f3.block _ (Array.getElem?_eq_some_iff.1 hkb).1 (fun h => h.elim hTD (by omega))).trans hkb
          have := run_endRound (P := P) jump hl3
          rw [hrec] at this
          have fe : Fr W3 (W3.putObj L (.loop (rec (if jump.isNone then .ready else .done) jump))) (fun k => k = L) := Fr.putObj _ rfl
          have hs : W.heap.size ≤ Wb.heap.size := Nat.le_trans fa.size fb.size
          have hTL' : ¬ T' L := fun h => by
            rcases g3 _ h with h | h
            · exact hTL h
            · have := (Array.getElem?_eq_some_iff.1 hlb).1; omega
          refine ⟨_, by rw [hrec]; exact this, World.putObj_heap_same (Array.getElem?_eq_some_iff.1 hl3).1, (fe.block _ (Array.getElem?_eq_some_iff.1 hk3).1 (by omega)).trans hk3, fe.mono (fun i _ e => by subst e; exact ⟨by omega, hTL'⟩), fe, fun k hk => ?_, hTL', fun h => ?_⟩
          · rcases g3 k hk with h | h
            · exact .inl h
            · exact .inr ⟨by omega, Nat.lt_of_lt_of_le h.2 fe.size⟩
          · rcases g3 _ h with h | h
            · exact hTD h
            · have := (Array.getElem?_eq_some_iff.1 hkb).1; omega
        have whole : ∀ {W3 W4 : World}, Fr Wb W3 (fun k => T k ∨ k < w.heap.size) → Fr W3 W4 (fun k => k = L) → Fr W W4 (fun k => T k ∨ k < W1.heap.size) := fun f3 fe =>
          (((fa.mono (T := fun k => T k ∨ k < W1.heap.size) (fun _ _ h => h.elim)).trans fb (fun _ _ h => .inr (by omega))).trans f3 (fun _ _ h => h.elim .inl (fun h => .inr (by omega)))).trans fe (fun _ _ h => .inr (by omega))
        rintro e a3 W3 hp
        cases e with
        | normal =>
          obtain ⟨T', f3, g3, hi3⟩ := hp
          obtain ⟨W4, hr, hl4, hk4, f4, fe, gW, n1, n2⟩ := fin none T' W3 (f3.mono (fun _ _ h => .inl h)) g3
          have fW : Fr W W4 (fun k => T k ∨ k = L) := (((fa.mono (T := fun k => T k ∨ k = L) (fun _ _ h => h.elim)).trans fb (fun _ _ h => .inr h)).trans f3 (fun _ _ h => .inl h)).trans fe (fun _ _ h => .inr h)
          refine ⟨_, W4, hr, T', gW, .inl ⟨rfl, ⟨fW.os, fW.tape, fW.output, fW.size, fun k hk hn => ?_⟩, hI _ _ _ _ hi3 f4, hl4, hk4, n1, n2⟩⟩
          by_cases e : k = L
          · subst e
            exact hl4.trans hl.symm
          · exact fW.block k hk (fun h => h.elim hn e)
        | ret =>
          obtain ⟨T', f3, g3, hi3⟩ := hp
          obtain ⟨W4, hr, hl4, hk4, f4, fe, gW, n1, n2⟩ := fin (some .ret) T' W3 f3 g3
          exact ⟨_, W4, hr, T', gW, .inr ⟨rfl, whole f3 fe, .ret, hIx _ _ _ _ _ hi3 f4, hl4, hk4, n1, n2⟩⟩
        | exit id =>
          obtain ⟨T', f3, g3, hi3⟩ := hp
          obtain ⟨W4, hr, hl4, hk4, f4, fe, gW, n1, n2⟩ := fin (some (.exit id)) T' W3 f3 g3
          exact ⟨_, W4, hr, T', gW, .inr ⟨rfl, whole f3 fe, .exit id, hIx _ _ _ _ _ hi3 f4, hl4, hk4, n1, n2⟩⟩
        | goto t =>
          obtain ⟨T', f3, g3, hi3⟩ := hp
          obtain ⟨W4, hr, hl4, hk4, f4, fe, gW, n1, n2⟩ := fin (some (.goto t)) T' W3 f3 g3
          exact ⟨_, W4, hr, T', gW, .inr ⟨rfl, whole f3 fe, .goto t, hIx _ _ _ _ _ hi3 f4, hl4, hk4, n1, n2⟩⟩
        | panic ch => exact hp.elim
        | outgrown => exact hp.elim
      | _ => exact he.elim
    · have put : ∀ {A : World} {T : Nat → Prop} {o : Obj}, ¬ T L → Fr A (A.putObj L o) (fun k => w.heap.size ≤ k ∧ ¬ T k) := fun h => Fr.putObj _ ⟨by omega, h⟩
      rintro e W2 ⟨⟨v, rfl⟩, (⟨xs, T, hS, hi, hl, hk, n1, n2⟩ | ⟨pre, T, hSp, c, hi, hl, hk, n1, n2⟩)⟩
      · exact ⟨none, _, by have := run_endLoop (P := P) hl (by rw [hrec]; simp); rw [hrec] at this; exact this, hdone _ xs T _ (Nat.le_refl _) hS (hI _ _ _ _ hi (put n1)) n2 ((World.putObj_heap_other (by omega)).trans hk)⟩
      · exact ⟨some c, _, by have := run_endLoop (P := P) hl (by rw [hrec]; simp); rw [hrec] at this; exact this, hstop _ c pre T _ (Nat.le_refl _) hSp (hIx c _ _ _ _ hi (put n1)) n2 ((World.putObj_heap_other (by omega)).trans hk)⟩
theorem calls_marks {P : Program} {f : FuncId} {fn : Func} {c : Code} {args : Array Value} {w : World} {R : Ending → World → Prop} (hf : P.funcs[f]? = some fn) (hb : fn.body = some c)
    (h : c.wp P (bodyPostM Fence.wide 9 P fn R) { tmps := args ++ Array.replicate (fn.ntmps - args.size) undef, defers := [] } w) : Calls P f args w R :=
  callsIn_wide.1 (callsIn_of_wp_marks (n := 9) hf hb trivial (wpIn_wide.2 h) rfl)
theorem ret_marks1 {P : Program} {fn : Func} {R : Ending → World → Prop} {a : Act} {w : World} {v : Value} {D : Nat} (hr : (results fn a.tmps).run P (w.putObj D (.deferred none)) = .ok v (w.putObj D (.deferred none))) (hd : a.defers = [{ target := .collected D, args := #[] }]) (hK : w.heap[D]? = some (.deferred (some []))) (h : R (.returned v) (w.putObj D (.deferred none))) : bodyPostM Fence.wide 9 P fn R .ret a w := by
  show LeavesInM _ _ _ _ _ _ a.defers _ _
  rw [hd]
  exact ⟨by simp, .inl ⟨_, _, rfl, run_takeDeferred hK, v, hr, h⟩⟩
end Go.Proofs.Ytfidojdolbmjdaa
