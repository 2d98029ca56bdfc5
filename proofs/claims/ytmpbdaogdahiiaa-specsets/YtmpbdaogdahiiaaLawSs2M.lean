import Derived.Test.YtmpbdaogdahiiaaSpSmM
import Derived.Test.YtmpbdaogdahiiaaSpNearWM
import Derived.Test.YtmpbdaogdahiiaaGrDataM
import Derived.Test.YtmpbdaogdahiiaaProg
import Derived.Maps.OwnSet
import Derived.WalkKit
import Derived.OwnWalk
section
/- What greatest of layer 10 returns: nobody is left out of a core who could be in it. -/
namespace Go.Proofs.Ytmpbdaogdahiiaa
open Go.RowKit Go.Shelf
attribute [local go_sem] Oper.semAt_some
/-- All in, up to j. -/
def trues (n j : Nat) : List Bool := (List.range n).map (fun i => decide (i < j))
theorem trues_len (n j : Nat) : (trues n j).length = n := by simp [trues]
theorem trues_zero (n : Nat) : trues n 0 = List.replicate n false := by
  unfold trues
  rw [show (fun i : Nat => decide (i < 0)) = fun _ => false from by funext i; simp, List.map_const', List.length_range]
theorem trues_all (n : Nat) : trues n n = List.replicate n true := by
  apply List.ext_getElem?
  intro i
  unfold trues
  by_cases hi : i < n
  · simp [hi]
  · simp [hi]
theorem trues_set (n j : Nat) : (trues n j).set j true = trues n (j + 1) := by
  apply List.ext_getElem?
  intro i
  rw [List.getElem?_set]
  unfold trues
  rw [List.length_map, List.length_range, List.getElem?_map, List.getElem?_map]
  by_cases e : j = i
  · subst e
    by_cases hj : j < n
    · simp [hj]
    · simp [hj]
  · rw [if_neg e]
    by_cases hi : i < n
    · rw [List.getElem?_range hi]
      simp only [Option.map_some]
      have : (i < j) = (i < j + 1) := by simp; omega
      simp only [this]
    · rw [List.getElem?_eq_none (by simpa using hi)]
      rfl
theorem gr_make (n : Nat) (hn : n ≤ 1000000) (W : World) : (Instr.makeSlice 78 (.int .i64 (n : Int)) (.int .i64 (n : Int))).run Try.prog W = .ok (.slice (some ⟨W.heap.size, 0, none⟩) n n) (W.alloc (.cells (madeCells #[.bool false] n) 4)) := by
  obtain ⟨i0, hi, hz0, hz1, hz2⟩ := info_parts infoCb
  have := run_make (P := Try.prog) W 78 4 i0 (.bool false) Try.underlying78 hi hz0 .i64 .i64 n n (by omega) (by omega) (by rw [hz2]; omega) (by omega)
  simpa [hz1, Value.cells] using this
set_option linter.unusedSimpArgs false in
set_option linter.unusedVariables false in
set_option maxRecDepth 100000 in
set_option maxHeartbeats 4000000 in
theorem greatest_any {w : World} {P : Nat → Prop} {ao : Option Addr} {G : List Vx} (cap : Nat) (h : VxAt w P ao G) (hl : ∀ v ∈ G, v.es.length ≤ 1000000) (hn : G.length ≤ 256) {N : List (List Int)} (hR : Rows2 N G.length) (hp : ∀ i, i < G.length → RiseI (N.getD i [])) (hnb : ∀ i a, i < G.length → a < G.length → nearD G i a = nbB N i a)
    {m : Nat} {L : List Int} {R : List Nat} {k : Int} (hI : IB w m L) (hC : CoreI N G.length k L R) (hL : ∀ i, i < G.length → 0 ≤ L.getD i 0 → k ≤ L.getD i 0) :
    Calls Try.prog 18 #[.slice ao G.length cap, .slice (some ⟨m, 0, none⟩) G.length G.length, .int .i64 k] w fun r w' => r = .returned (.bool true) ∧ Below w.heap.size w w' := by
  have HNear : Hid (∀ W i a, Below w.heap.size w W → i < G.length → a < G.length → Calls Try.prog 17 #[.slice ao G.length cap, .int .i64 (i : Nat), .int .i64 (a : Nat)] W fun r w' => r = .returned (.bool (nbB N i a)) ∧ Below W.heap.size W w') := fun W i a hb hi ha => by
    have := near_any cap ((h.mono (Q := fun k => k < w.heap.size) (fun k hk _ => hk)).new hb) hi ha hl
    rw [hnb i a hi ha] at this
    exact this
  have HKeep : Hid (∀ t i Ft, GrI G.length R t i Ft → i < G.length → ¬ (inG N Ft i G.length : Int) < k → GrI G.length R t (i + 1) Ft) := fun t i Ft h1 h2 h3 => h1.keep hR hp hC h2 h3
  have HDrop : Hid (∀ t i Ft, GrI G.length R t i Ft → i < G.length → (inG N Ft i G.length : Int) < k → GrI G.length R t (i + 1) (Ft.set i false)) := fun t i Ft h1 h2 h3 => h1.drop hR hp hC hL h2 h3
  have HTurn : Hid (∀ t Ft, GrI G.length R t G.length Ft → GrI G.length R (t + 1) 0 Ft) := fun t Ft h1 => h1.turn hC.sub
  have HDone : Hid (∀ Ft i, GrI G.length R G.length 0 Ft → i < G.length → Ft.getD i false = decide (0 ≤ L.getD i 0)) := fun Ft i h1 h2 => h1.done hC h2
  have HI : Hid (IB w m L) := hI
  have HLl : Hid (L.length = G.length) := hC.len
  have HSt : Hid (GrI G.length R 0 0 (List.replicate G.length true)) := GrI.start _ _
  have hmk := gr_make G.length (by omega)
  generalize G.length = n at hn HNear HKeep HDrop HTurn HDone HLl HSt hmk ⊢
  clear h hl hR hp hnb hI hC hL
  go_enter Try.func18, Try.ntmps18
  go_upto_region 2 with (fail)
  generalize hW : World.alloc _ _ = W
  have bW : Below w.heap.size w W := by rw [← hW]; exact one_new _ _
  have HF0 : Hid (BB W w.heap.size (trues n 0)) := by show BB _ _ _; rw [trues_zero, ← hW]; exact BB.made _ _
  have HB0 : Hid (Below w.heap.size w W) := bW
  clear hW bW hmk
  obtain ⟨q, hq⟩ : ∃ q, w.heap.size = q := ⟨_, rfl⟩
  have HQ : Hid (w.heap.size = q) := hq
  rw [hq] at HF0 ⊢
  clear hq
  have hset : ∀ (W : World) (a : Nat) (x : Value), Fr W (W.setCell ⟨q, a, none⟩ x) (fun k => k = q) := fun W a x => Fr.setCell (S := fun k => k = q) W ⟨q, a, none⟩ x rfl
  have HSet : Hid (∀ (W : World) (a : Nat) (x : Value), Below w.heap.size w W → Below w.heap.size w (W.setCell ⟨q, a, none⟩ x)) := fun W a x hb => hb.trans ((hset W a x).below hb.size (fun k hk => by have := HQ.out; omega))
  clear hset
  go_wp2
  go_loopw [8] (fun i wr => ∃ j : Nat, j ≤ n ∧ i = .int .i64 j ∧ Hid (BB wr q (trues n j)) ∧ Hid (Below w.heap.size w wr)) (fun i _ => n - (intOf i).toNat)
  case atStart => exact ⟨0, Nat.zero_le _, rfl, HF0, HB0⟩
  case round =>
    clear HF0 HB0
    obtain ⟨j, hj, rfl, HF, HB⟩ := hrel
    by_cases hlt : j < n
    · have HLt : Hid (j < n) := hlt
      obtain ⟨f0, f1⟩ := BB.cell HF.out (j := j) (by rw [trues_len]; exact hlt)
      go_wp2
      go_roundw
      case rel => exact ⟨j + 1, HLt.out, by go_num, by show BB _ _ _; rw [← trues_set]; exact BB.set HF.out j true, HSet.out _ _ _ HB.out⟩
      case measure => have := HLt.out; simp [intOf]; omega
    · obtain rfl : j = n := by omega
      clear hlt
      rw [trues_all] at HF
      go_wp2
      go_loopw [9, 10, 11, 12] (fun t _ _ _ wr => ∃ (tt : Nat) (Ft : List Bool), tt ≤ j ∧ t = .int .i64 tt ∧ Hid (BB wr q Ft) ∧ Hid (GrI j R tt 0 Ft) ∧ Hid (Below w.heap.size w wr)) (fun t _ _ _ _ => j - (intOf t).toNat)
      case atStart => exact ⟨0, _, Nat.zero_le _, rfl, HF, HSt, HB⟩
      case round =>
        clear HF HB
        obtain ⟨t, Ft, ht, rfl, HF, HG, HB⟩ := hrel
        by_cases hlt : t < j
        · have HLt : Hid (t < j) := hlt
          go_wp2
          go_loopw [10, 11, 12] (fun iv _ _ wr => ∃ (i : Nat) (Ft : List Bool), i ≤ j ∧ iv = .int .i64 i ∧ Hid (BB wr q Ft) ∧ Hid (GrI j R t i Ft) ∧ Hid (Below w.heap.size w wr)) (fun iv _ _ _ => j - (intOf iv).toNat)
          case atStart => exact ⟨0, Ft, Nat.zero_le _, rfl, HF, HG, HB⟩
          case round =>
            clear HF HB HG
            obtain ⟨i, Ft, hi, rfl, HF, HG, HB⟩ := hrel
            by_cases hil : i < j
            · have HIl : Hid (i < j) := hil
              go_wp2
              go_loopw [11, 12] (fun nv av wr => ∃ a : Nat, a ≤ j ∧ av = .int .i64 a ∧ nv = .int .i64 (inG N Ft i a) ∧ Hid (BB wr q Ft) ∧ Hid (Below w.heap.size w wr)) (fun _ av _ => j - (intOf av).toNat)
              case atStart => exact ⟨0, Nat.zero_le _, rfl, rfl, HF, HB⟩
              case round =>
                clear HF HB
                obtain ⟨a, ha, rfl, rfl, HF, HB⟩ := hrel
                have hia := inG_le N Ft i a
                by_cases hal : a < j
                · have HAl : Hid (a < j) := hal
                  have haf : a < Ft.length := by rw [HG.out.len]; exact hal
                  obtain ⟨f0, _⟩ := BB.cell HF.out haf
                  have HS : Hid (inG N Ft i (a + 1) = inG N Ft i a + (if (Ft[a] && nbB N i a) then 1 else 0)) := by
                    show _ = _
                    rw [inG_succ]
                    simp [List.getD, haf]
                  have hNr := HNear.out wr i a HB.out hil hal
                  generalize Ft[a] = fa at f0 HS
                  generalize nbB N i a = nb at hNr HS
                  generalize inG N Ft i a = I0 at hia HS ⊢
                  clear haf
                  cases fa with
                  | false =>
                    simp only [Bool.false_and, Bool.false_eq_true, if_false, Nat.add_zero] at HS
                    go_wp2
                    go_roundw
                    case rel => exact ⟨a + 1, HAl.out, by go_num, by rw [HS.out], HF, HB⟩
                    case measure => have := HAl.out; simp [intOf]; omega
                  | true =>
                    simp only [Bool.true_and] at HS
                    cases nb with
                    | false =>
                      simp only [Bool.false_eq_true, if_false, Nat.add_zero] at HS
                      go_wp2_with (go_at_call 17; refine hNr.mono ?_; rintro r w5 ⟨rfl, hb5⟩)
                      have HF5 : Hid (BB w5 q Ft) := BB.new HF.out hb5
                      have HB5 : Hid (Below w.heap.size w w5) := HB.out.trans (hb5.mono HB.out.size)
                      go_roundw
                      case rel => exact ⟨a + 1, HAl.out, by go_num, by rw [HS.out], HF5, HB5⟩
                      case measure => have := HAl.out; simp [intOf]; omega
                    | true =>
                      simp only [if_true] at HS
                      go_wp2_with (go_at_call 17; refine hNr.mono ?_; rintro r w5 ⟨rfl, hb5⟩)
                      have HF5 : Hid (BB w5 q Ft) := BB.new HF.out hb5
                      have HB5 : Hid (Below w.heap.size w w5) := HB.out.trans (hb5.mono HB.out.size)
                      go_roundw
                      case rel => exact ⟨a + 1, HAl.out, by go_num, by rw [HS.out]; go_num, HF5, HB5⟩
                      case measure => have := HAl.out; simp [intOf]; omega
                · obtain rfl : a = j := by omega
                  have HK1 : Hid (¬ (inG N Ft i a : Int) < k → GrI a R t (i + 1) Ft) := fun h => HKeep.out t i Ft HG.out HIl.out (by omega)
                  have HD1 : Hid ((inG N Ft i a : Int) < k → GrI a R t (i + 1) (Ft.set i false)) := fun h => HDrop.out t i Ft HG.out HIl.out h
                  obtain ⟨f0, f1⟩ := BB.cell HF.out (j := i) (by rw [HG.out.len]; exact HIl.out)
                  generalize inG N Ft i a = I0 at hia HK1 HD1 ⊢
                  clear hal
                  by_cases hk : (I0 : Int) < k
                  · have HG2 : Hid (GrI a R t (i + 1) (Ft.set i false)) := HD1.out hk
                    go_wp2
                    go_roundw
                    case rel => exact ⟨i + 1, _, HIl.out, by go_num, (show BB _ _ _ from BB.set HF.out i false), HG2, HSet.out _ _ _ HB.out⟩
                    case measure => have := HIl.out; simp [intOf]; omega
                  · have HG2 : Hid (GrI a R t (i + 1) Ft) := HK1.out hk
                    have hk2 : k ≤ (I0 : Int) := by omega
                    go_wp2
                    go_roundw
                    case rel => exact ⟨i + 1, _, HIl.out, by go_num, HF, HG2, HB⟩
                    case measure => have := HIl.out; simp [intOf]; omega
            · obtain rfl : i = j := by omega
              have HG2 : Hid (GrI i R (t + 1) 0 Ft) := HTurn.out t Ft HG.out
              clear hil
              go_wp2
              go_roundw
              case rel => exact ⟨t + 1, Ft, HLt.out, by go_num, HF, HG2, HB⟩
              case measure => have := HLt.out; simp [intOf]; omega
        · obtain rfl : t = j := by omega
          clear hlt
          rename World => wo
          go_wp2
          go_loopw [13] (fun iv wr => ∃ i q2 : Nat, i ≤ t ∧ iv = .int .i64 i ∧ Hid (wr = wo.drewN q2)) (fun iv _ => t - (intOf iv).toNat)
          case atStart => exact ⟨0, 0, Nat.zero_le _, rfl, rfl⟩
          case round =>
            obtain ⟨i, q2, hi, rfl, HQ2⟩ := hrel
            by_cases hil : i < t
            · have HIl : Hid (i < t) := hil
              have hif : i < Ft.length := by rw [HG.out.len]; exact hil
              have hiL : i < L.length := by rw [HLl.out]; exact hil
              have f0 : wr.cell? ⟨q, i, none⟩ = some (.bool Ft[i]) := by rw [HQ2.out]; exact (BB.cell HF.out hif).1
              have l0 : wr.cell? ⟨m, i, none⟩ = some (.int .i64 L[i]) := by rw [HQ2.out]; exact (IB.cell (IB.new HI.out HB.out) hiL).1
              have he : Ft[i] = decide (0 ≤ L[i]) := by
                have := HDone.out Ft i HG.out hil
                simpa [List.getD, hif, hiL] using this
              rw [he] at f0
              generalize L[i] = y at f0 l0
              clear he hif hiL
              by_cases hy : 0 ≤ y
              · rw [decide_eq_true hy] at f0
                go_wp2
                go_quiet (fail)
                go_wp2
                go_roundw
                case rel => exact ⟨i + 1, _, HIl.out, by go_num, by rw [HQ2.out]; exact (World.drewN_drewN _ _ _)⟩
                case measure => have := HIl.out; simp [intOf]; omega
              · rw [decide_eq_false hy] at f0
                have hy2 : y < 0 := by omega
                go_wp2
                go_quiet (fail)
                go_wp2
                go_roundw
                case rel => exact ⟨i + 1, _, HIl.out, by go_num, by rw [HQ2.out]; exact (World.drewN_drewN _ _ _)⟩
                case measure => have := HIl.out; simp [intOf]; omega
            · obtain rfl : i = t := by omega
              clear hil
              go_wp2
              go_ret
              exact ⟨rfl, by rw [HQ2.out]; exact bel_drewN HB.out q2⟩
end Go.Proofs.Ytmpbdaogdahiiaa
end

section
/- A map of numbers to truths: how it lies, a look-up, an update. -/
namespace Go.Proofs.Ytmpbdaogdahiiaa
open Go.RowKit Go.Maps
theorem plainElem_bool_inv {P : Program} {e : TypeId} (he : P.underlying e = some .bool) {v : Value} {z : DataW Unit × List MemPlace} (h : plainElem P e v = some z) : ∃ a, v = .bool a ∧ z = (.lit (.bool a), []) := by
  unfold plainElem at h
  rw [he] at h
  cases v <;> simp at h
  exact ⟨_, rfl, h.symm⟩
/-- A map that says f. -/
def BMap (w : World) (b n : Nat) (f : Int → Bool) : Prop := ∃ D : DataW Unit, w.ownsMap Try.prog 2 (plainElem Try.prog 4) b n D ∧ ∀ x, D.atKey (.int .i64 x) (.lit (.bool false)) = .lit (.bool (f x))
theorem mkeyOf {id : Int} (h : I64 id) : keyOf Try.prog 2 (.int .i64 id) = some (.int .i64 id) := keyOf_int_mk Try.underlying2 (WalkArith.wf_i64 ⟨h.1, h.2⟩)
theorem mlaw64 : Keyed Try.prog 2 := int_keyed Try.underlying2
theorem BMap.made (w : World) : BMap (w.alloc (.map #[] 0)) w.heap.size 0 (fun _ => false) := ⟨_, World.ownsMap_made w _ _ _, fun _ => rfl⟩
theorem BMap.same {w w' : World} {b n : Nat} {f : Int → Bool} (h : BMap w b n f) (e : w'.heap[b]? = w.heap[b]?) : BMap w' b n f := by
  obtain ⟨D, ⟨es, clock, hb, r⟩, hat⟩ := h
  exact ⟨D, ⟨es, clock, e.trans hb, r⟩, hat⟩
theorem BMap.lt {w : World} {b n : Nat} {f : Int → Bool} (h : BMap w b n f) : b < w.heap.size := by
  obtain ⟨D, h, _⟩ := h
  exact h.lt
theorem BMap.new {w w' : World} {b n : Nat} {f : Int → Bool} (h : BMap w b n f) (hb : Below w.heap.size w w') : BMap w' b n f := h.same (hb.block b h.lt)
theorem BMap.look {w : World} {b n : Nat} {f : Int → Bool} (h : BMap w b n f) {x : Int} (hx : I64 x) : (Instr.lookup 41 (.map (some b)) (.int .i64 x) false).run Try.prog w = .ok (.bool (f x)) w := by
  obtain ⟨D, h, hat⟩ := h
  obtain ⟨v, ps, hrun, hv⟩ := h.lookup mlaw64 Try.underlying41 (z := .bool false) (by go_simp) (plainElem_bool Try.underlying4 false) (mkeyOf hx)
  obtain ⟨a, rfl, hz⟩ := plainElem_bool_inv Try.underlying4 hv
  rw [hat x] at hz
  simp only [Prod.mk.injEq, DataW.lit.injEq, Lit.bool.injEq] at hz
  rw [hrun, hz.1]
theorem mkey_ne {i j : Int} (h : i ≠ j) : (Lit.int .i64 i) ≠ (Lit.int .i64 j) := by
  intro e
  cases e
  exact h rfl
theorem BMap.put {w : World} {b n : Nat} {f : Int → Bool} (h : BMap w b n f) (hn : n < maxLen) {x : Int} (hx : I64 x) (c : Bool) : ∃ w', (Instr.mapUpdate 41 (.map (some b)) (.int .i64 x) (.bool c)).run Try.prog w = .ok () w' ∧ BMap w' b (n + 1) (fun y => if y = x then c else f y) ∧ Fr w w' (fun k => k = b) := by
  obtain ⟨D, h, hat⟩ := h
  obtain ⟨w', hrun, h1, h2⟩ := h.store mlaw64 Try.underlying41 hn (mkeyOf hx) (plainElem_bool Try.underlying4 c)
  refine ⟨w', hrun, ⟨_, h1, fun y => ?_⟩, Fr.grown h2.grown (fun k e => by cases e; rfl)⟩
  simp only
  by_cases e : y = x
  · subst e
    rw [if_pos rfl, atKey_put_same h.isMap (show WideAt.IsKeyLit (.int .i64 y) from trivial)]
  · rw [if_neg e, atKey_put_other (mkey_ne e), hat]
end Go.Proofs.Ytmpbdaogdahiiaa
end

section
/- SpecSets: its loop over the neighbours of a vertex. -/
namespace Go.Proofs.Ytmpbdaogdahiiaa
open Go.RowKit Go.Shelf Go.Maps
attribute [local go_sem] Oper.semAt_some
/-- What lies in a block of a function's code. -/
def inBlkS (n : Nat) : Code → Option Code
  | .block m c => if m = n then some c else inBlkS n c
  | .loop c => inBlkS n c
  | .seq a b => match inBlkS n a with
    | some c => some c
    | none => inBlkS n b
  | .scope c => inBlkS n c
  | .cond _ a b => match inBlkS n a with
    | some c => some c
    | none => inBlkS n b
  | _ => none
/-- A color that a lesser neighbour has. -/
def seenP (N : List (List Int)) (C : List Int) (i m : Nat) (x : Int) : Prop := ∃ a, a < m ∧ a < i ∧ nbB N i a = true ∧ C.getD a 0 = x
theorem seen_no {N : List (List Int)} {C : List Int} {i m : Nat} (h : ¬ (m < i ∧ nbB N i m = true)) (x : Int) : seenP N C i (m + 1) x ↔ seenP N C i m x := by
  constructor
  · rintro ⟨a, h1, h2, h3, h4⟩
    rcases Nat.lt_or_ge a m with h5 | h5
    · exact ⟨a, h5, h2, h3, h4⟩
    · obtain rfl : a = m := by omega
      exact absurd ⟨h2, h3⟩ h
  · rintro ⟨a, h1, h2, h3, h4⟩
    exact ⟨a, by omega, h2, h3, h4⟩
theorem seen_yes {N : List (List Int)} {C : List Int} {i m : Nat} (h1 : m < i) (h2 : nbB N i m = true) (x : Int) : seenP N C i (m + 1) x ↔ x = C.getD m 0 ∨ seenP N C i m x := by
  constructor
  · rintro ⟨a, g1, g2, g3, g4⟩
    rcases Nat.lt_or_ge a m with h5 | h5
    · exact .inr ⟨a, h5, g2, g3, g4⟩
    · obtain rfl : a = m := by omega
      exact .inl g4.symm
  · rintro (rfl | ⟨a, g1, g2, g3, g4⟩)
    · exact ⟨m, by omega, h1, h2, rfl⟩
    · exact ⟨a, by omega, g2, g3, g4⟩
set_option linter.unusedSimpArgs false in
set_option linter.unusedVariables false in
set_option maxRecDepth 100000 in
set_option maxHeartbeats 16000000 in
theorem ss_loop4 {w W : World} {bo : Option Addr} {N : List (List Int)} {n cx i a c0 : Nat} {x0 x1 x2 x3 x4 x7 x8 x9 x10 x12 x13 x14 x16 x19 x20 x21 x22 x23 x24 x25 x26 x27 x28 x29 x30 x31 x32 x33 x34 x35 x36 x37 x38 x39 x40 x41 x42 x43 x44 x45 x46 x47 x48 x49 x50 x51 x52 x53 x54 x55 x56 x57 x58 x59 x60 x61 x62 x63 x64 x65 x66 x67 x68 x69 x70 x71 x72 x73 x74 x75 x76 x77 x78 x79 x80 x81 x82 x83 x84 x85 x86 x87 x88 x89 x90 x91 x92 x93 x94 x95 x96 x97 x98 x99 x100 x101 x102 x103 x104 x105 x106 x107 x108 x109 x110 x111 x112 x113 x114 x115 x116 x117 x118 x119 x120 x121 x122 x123 x124 x125 x126 x127 x128 x129 x130 x131 x132 x133 x134 x135 x136 x137 x138 x139 x140 x141 x142 x143 x144 x145 x146 x147 x148 x149 x150 x151 x152 x153 x154 x155 x156 x157 x158 x159 x160 x161 x162 x163 x164 x165 x166 x167 x168 x169 x170 x171 x172 x173 x174 x175 x176 x177 x178 x179 x180 x181 x182 x183 x184 x185 x186 x187 x188 x189 x190 x191 x192 x193 x194 x195 x196 x197 x198 x199 x200 x201 x202 x203 x204 x205 x206 x207 x208 x209 x210 x211 x212 x213 x214 x215 x216 x217 x218 x219 x220 x221 x222 : Value} {Q : Exit → Act → World → Prop}
    (hn : n ≤ 20) (hi : i < n) (ha : a < n) (hc0 : c0 ≤ 400) (hNear : ∀ W i a, Below w.heap.size w W → i < n → a < n → Calls Try.prog 17 #[.slice bo n cx, .int .i64 (i : Nat), .int .i64 (a : Nat)] W fun r w' => r = .returned (.bool (nbB N i a)) ∧ Below W.heap.size W w')
    (hB : Below w.heap.size w W)
    (HC : ∀ (wr : World) y18 y143 y144 y145 y146 y147 y148 y149 y150 y151 y152 y153 y154 y155 y156 y157 y158 y159 y160 y161 y162 y163 y164 y165 y166 y167 y168 y169, Below W.heap.size W wr → Q .normal ⟨(List.toArray (x0 :: x1 :: x2 :: x3 :: x4 :: (.slice bo n cx) :: (.int .i64 n) :: x7 :: x8 :: x9 :: x10 :: (.int .i64 i) :: x12 :: x13 :: x14 :: (.int .i64 (c0 + subT N i a n : Nat)) :: x16 :: (.int .i64 a) :: y18 :: x19 :: x20 :: x21 :: x22 :: x23 :: x24 :: x25 :: x26 :: x27 :: x28 :: x29 :: x30 :: x31 :: x32 :: x33 :: x34 :: x35 :: x36 :: x37 :: x38 :: x39 :: x40 :: x41 :: x42 :: x43 :: x44 :: x45 :: x46 :: x47 :: x48 :: x49 :: x50 :: x51 :: x52 :: x53 :: x54 :: x55 :: x56 :: x57 :: x58 :: x59 :: x60 :: x61 :: x62 :: x63 :: x64 :: x65 :: x66 :: x67 :: x68 :: x69 :: x70 :: x71 :: x72 :: x73 :: x74 :: x75 :: x76 :: x77 :: x78 :: x79 :: x80 :: x81 :: x82 :: x83 :: x84 :: x85 :: x86 :: x87 :: x88 :: x89 :: x90 :: x91 :: x92 :: x93 :: x94 :: x95 :: x96 :: x97 :: x98 :: x99 :: x100 :: x101 :: x102 :: x103 :: x104 :: x105 :: x106 :: x107 :: x108 :: x109 :: x110 :: x111 :: x112 :: x113 :: x114 :: x115 :: x116 :: x117 :: x118 :: x119 :: x120 :: x121 :: x122 :: x123 :: x124 :: x125 :: x126 :: x127 :: x128 :: x129 :: x130 :: x131 :: x132 :: x133 :: x134 :: x135 :: x136 :: x137 :: x138 :: x139 :: x140 :: x141 :: x142 :: y143 :: y144 :: y145 :: y146 :: y147 :: y148 :: y149 :: y150 :: y151 :: y152 :: y153 :: y154 :: y155 :: y156 :: y157 :: y158 :: y159 :: y160 :: y161 :: y162 :: y163 :: y164 :: y165 :: y166 :: y167 :: y168 :: y169 :: x170 :: x171 :: x172 :: x173 :: x174 :: x175 :: x176 :: x177 :: x178 :: x179 :: x180 :: x181 :: x182 :: x183 :: x184 :: x185 :: x186 :: x187 :: x188 :: x189 :: x190 :: x191 :: x192 :: x193 :: x194 :: x195 :: x196 :: x197 :: x198 :: x199 :: x200 :: x201 :: x202 :: x203 :: x204 :: x205 :: x206 :: x207 :: x208 :: x209 :: x210 :: x211 :: x212 :: x213 :: x214 :: x215 :: x216 :: x217 :: x218 :: x219 :: x220 :: x221 :: x222 :: [])), []⟩ wr) :
    Code.wp Try.prog ((Try.f4.body.bind (inBlkS 4)).getD .skip) (Exit.inBlock 4 Q) ⟨(List.toArray (x0 :: x1 :: x2 :: x3 :: x4 :: (.slice bo n cx) :: (.int .i64 n) :: x7 :: x8 :: x9 :: x10 :: (.int .i64 i) :: x12 :: x13 :: x14 :: (.int .i64 (c0 : Nat)) :: x16 :: (.int .i64 a) :: (.int .i64 ((a : Int) + 1)) :: x19 :: x20 :: x21 :: x22 :: x23 :: x24 :: x25 :: x26 :: x27 :: x28 :: x29 :: x30 :: x31 :: x32 :: x33 :: x34 :: x35 :: x36 :: x37 :: x38 :: x39 :: x40 :: x41 :: x42 :: x43 :: x44 :: x45 :: x46 :: x47 :: x48 :: x49 :: x50 :: x51 :: x52 :: x53 :: x54 :: x55 :: x56 :: x57 :: x58 :: x59 :: x60 :: x61 :: x62 :: x63 :: x64 :: x65 :: x66 :: x67 :: x68 :: x69 :: x70 :: x71 :: x72 :: x73 :: x74 :: x75 :: x76 :: x77 :: x78 :: x79 :: x80 :: x81 :: x82 :: x83 :: x84 :: x85 :: x86 :: x87 :: x88 :: x89 :: x90 :: x91 :: x92 :: x93 :: x94 :: x95 :: x96 :: x97 :: x98 :: x99 :: x100 :: x101 :: x102 :: x103 :: x104 :: x105 :: x106 :: x107 :: x108 :: x109 :: x110 :: x111 :: x112 :: x113 :: x114 :: x115 :: x116 :: x117 :: x118 :: x119 :: x120 :: x121 :: x122 :: x123 :: x124 :: x125 :: x126 :: x127 :: x128 :: x129 :: x130 :: x131 :: x132 :: x133 :: x134 :: x135 :: x136 :: x137 :: x138 :: x139 :: x140 :: x141 :: x142 :: x143 :: x144 :: x145 :: x146 :: x147 :: x148 :: x149 :: x150 :: x151 :: x152 :: x153 :: x154 :: x155 :: x156 :: x157 :: x158 :: x159 :: x160 :: x161 :: x162 :: x163 :: x164 :: x165 :: x166 :: x167 :: x168 :: x169 :: x170 :: x171 :: x172 :: x173 :: x174 :: x175 :: x176 :: x177 :: x178 :: x179 :: x180 :: x181 :: x182 :: x183 :: x184 :: x185 :: x186 :: x187 :: x188 :: x189 :: x190 :: x191 :: x192 :: x193 :: x194 :: x195 :: x196 :: x197 :: x198 :: x199 :: x200 :: x201 :: x202 :: x203 :: x204 :: x205 :: x206 :: x207 :: x208 :: x209 :: x210 :: x211 :: x212 :: x213 :: x214 :: x215 :: x216 :: x217 :: x218 :: x219 :: x220 :: x221 :: x222 :: [])), []⟩ W := by
  have HH : Hid _ := HC
  have HNear : Hid (∀ W i a, Below w.heap.size w W → i < n → a < n → Calls Try.prog 17 #[.slice bo n cx, .int .i64 (i : Nat), .int .i64 (a : Nat)] W fun r w' => r = .returned (.bool (nbB N i a)) ∧ Below W.heap.size W w') := hNear
  have HB0 : Hid (Below w.heap.size w W) := hB
  have HIn : Hid (i < n ∧ a < n) := ⟨hi, ha⟩
  clear HC hNear hB
  conv => arg 2; whnf
  go_loopw [15, 18] (fun cv mv wr => ∃ m : Nat, a + 1 ≤ m ∧ m ≤ n ∧ mv = .int .i64 m ∧ cv = .int .i64 (c0 + subT N i a m : Nat) ∧ Hid (Below W.heap.size W wr)) (fun _ mv _ => n - (intOf mv).toNat)
  case atStart => exact ⟨a + 1, Nat.le_refl _, HIn.out.2, by go_num, by rw [subT_start, Nat.add_zero], Below.refl _ _⟩
  case round =>
    obtain ⟨m, ham, hm, rfl, rfl, HB⟩ := hrel
    have hs0 := subT_le N i a m
    have HBw : Hid (Below w.heap.size w wr) := HB0.out.trans (HB.out.mono HB0.out.size)
    by_cases hml : m < n
    · have HMl : Hid (m < n) := hml
      have hmi : (m : Int) < n := by omega
      have HS : Hid (subT N i a (m + 1) = subT N i a m + (if (decide (a < i) && (decide (i < m) && (nbB N i m && nbB N a m))) then 1 else 0)) := by
        show _ = _
        rw [subT_succ, decide_eq_true (show a < m by omega), Bool.true_and]
      have hN1 := HNear.out wr i m HBw.out HIn.out.1 hml
      have HN2 : Hid (∀ W5, Below wr.heap.size wr W5 → Calls Try.prog 17 #[.slice bo n cx, .int .i64 (a : Nat), .int .i64 (m : Nat)] W5 fun r w' => r = .returned (.bool (nbB N a m)) ∧ Below W5.heap.size W5 w') := fun W5 h5 => HNear.out W5 a m (HBw.out.trans (h5.mono HBw.out.size)) HIn.out.2 HMl.out
      generalize subT N i a m = s0 at hs0 HS ⊢
      by_cases hai : a < i
      · have hai2 : (a : Int) < i := by omega
        rw [decide_eq_true hai] at HS
        by_cases him : i < m
        · have him2 : (i : Int) < m := by omega
          rw [decide_eq_true him] at HS
          cases hnb : nbB N i m with
          | false =>
            rw [hnb] at hN1 HS
            simp only [Bool.true_and, Bool.false_and, Bool.false_eq_true, if_false, Nat.add_zero] at HS
            go_wp2_with (go_at_call 17; refine hN1.mono ?_; rintro r w5 ⟨rfl, hb5⟩)
            have HB5 : Hid (Below W.heap.size W w5) := HB.out.trans (hb5.mono HB.out.size)
            go_roundw
            case rel => exact ⟨m + 1, by omega, HMl.out, by go_num, by rw [HS.out]; try go_num, HB5⟩
            case measure => have := HMl.out; simp [intOf]; omega
          | true =>
            rw [hnb] at hN1 HS
            have tk1 : Hid True := trivial
            cases hna : nbB N a m with
            | false =>
              rw [hna] at HS HN2
              simp only [Bool.true_and, Bool.and_false, Bool.false_eq_true, if_false, Nat.add_zero] at HS
              go_wp2_with (first
                | (go_at_call 17; have _t := tk1; refine hN1.mono ?_; rintro r w5 ⟨rfl, hb5⟩; clear tk1 _t; have hN2 := HN2.out w5 hb5)
                | (go_at_call 17; refine hN2.mono ?_; rintro r w6 ⟨rfl, hb6⟩))
              have HB6 : Hid (Below W.heap.size W w6) := (HB.out.trans (hb5.mono HB.out.size)).trans (hb6.mono (HB.out.trans (hb5.mono HB.out.size)).size)
              go_roundw
              case rel => exact ⟨m + 1, by omega, HMl.out, by go_num, by rw [HS.out]; try go_num, HB6⟩
              case measure => have := HMl.out; simp [intOf]; omega
            | true =>
              rw [hna] at HS HN2
              simp only [Bool.true_and, Bool.and_true, if_true] at HS
              go_wp2_with (first
                | (go_at_call 17; have _t := tk1; refine hN1.mono ?_; rintro r w5 ⟨rfl, hb5⟩; clear tk1 _t; have hN2 := HN2.out w5 hb5)
                | (go_at_call 17; refine hN2.mono ?_; rintro r w6 ⟨rfl, hb6⟩))
              have HB6 : Hid (Below W.heap.size W w6) := (HB.out.trans (hb5.mono HB.out.size)).trans (hb6.mono (HB.out.trans (hb5.mono HB.out.size)).size)
              go_roundw
              case rel => exact ⟨m + 1, by omega, HMl.out, by go_num, by rw [HS.out]; try go_num, HB6⟩
              case measure => have := HMl.out; simp [intOf]; omega
        · rw [decide_eq_false him] at HS
          have him2 : (m : Int) ≤ i := by omega
          simp only [Bool.true_and, Bool.false_and, Bool.false_eq_true, if_false, Nat.add_zero] at HS
          go_wp2
          go_roundw
          case rel => exact ⟨m + 1, by omega, HMl.out, by go_num, by rw [HS.out]; try go_num, HB⟩
          case measure => have := HMl.out; simp [intOf]; omega
      · rw [decide_eq_false hai] at HS
        have hai2 : (i : Int) ≤ a := by omega
        simp only [Bool.false_and, Bool.false_eq_true, if_false, Nat.add_zero] at HS
        go_wp2
        go_roundw
        case rel => exact ⟨m + 1, by omega, HMl.out, by go_num, by rw [HS.out]; try go_num, HB⟩
        case measure => have := HMl.out; simp [intOf]; omega
    · obtain rfl : m = n := by omega
      clear hml
      go_wp2
      exact HH.out _ _ _ _ _ _ _ _ _ _ _ _ _ _ _ _ _ _ _ _ _ _ _ _ _ _ _ _ _ HB.out
set_option linter.unusedSimpArgs false in
set_option linter.unusedVariables false in
set_option maxRecDepth 100000 in
set_option maxHeartbeats 16000000 in
theorem ss_loop2 {w W : World} {bo : Option Addr} {N : List (List Int)} {n cx mp mt mc mo b i : Nat} {Lp C Lc : List Int} {x0 x1 x2 x3 x4 x12 x13 x18 x19 x20 x21 x22 x23 x24 x25 x26 x27 x28 x29 x30 x31 x32 x33 x34 x35 x36 x37 x38 x39 x40 x41 x42 x43 x44 x45 x46 x47 x48 x49 x50 x51 x52 x53 x54 x55 x56 x57 x58 x59 x60 x61 x62 x63 x64 x65 x66 x67 x68 x69 x70 x71 x72 x73 x74 x75 x76 x77 x78 x79 x80 x81 x82 x83 x84 x85 x86 x87 x88 x89 x90 x91 x92 x93 x94 x95 x96 x97 x98 x99 x100 x101 x102 x103 x104 x105 x106 x107 x108 x109 x110 x111 x112 x113 x114 x115 x116 x117 x118 x119 x120 x121 x122 x123 x124 x125 x126 x127 x128 x129 x130 x131 x132 x133 x134 x135 x136 x137 x138 x139 x140 x141 x142 x143 x144 x145 x146 x147 x148 x149 x150 x151 x152 x153 x154 x155 x156 x157 x158 x159 x160 x161 x162 x163 x164 x165 x166 x167 x168 x169 x170 x171 x172 x173 x174 x175 x176 x177 x178 x179 x180 x181 x182 x183 x184 x185 x186 x187 x188 x189 x190 x191 x192 x193 x194 x195 x196 x197 x198 x199 x200 x201 x202 x203 x204 x205 x206 x207 x208 x209 x210 x211 x212 x213 x214 x215 x216 x217 x218 x219 x220 x221 x222 : Value} {K : Act → World → Prop} {Q' : Exit → Act → World → Prop}
    (hn : n ≤ 20) (hi : i < n) (hNear : ∀ W i a, Below w.heap.size w W → i < n → a < n → Calls Try.prog 17 #[.slice bo n cx, .int .i64 (i : Nat), .int .i64 (a : Nat)] W fun r w' => r = .returned (.bool (nbB N i a)) ∧ Below W.heap.size W w')
    (hPa : IB w mp Lp) (lp : Lp.length = n) (hCo : IB w mc Lc) (lc : Lc.length = n) (hCl : IB w mo C) (lo : C.length = n)
    (hpar : ∀ a, a < n → nbB N i a = true → Lp.getD a 0 = Lp.getD i 0) (hcol : ∀ a, a < n → nbB N i a = true → C.getD a 0 ≠ C.getD i 0) (hc64 : ∀ a, a < n → 0 ≤ C.getD a 0 ∧ C.getD a 0 ≤ 4096)
    (hb : w.heap.size ≤ b) (hM : BMap W b 0 (fun _ => false)) (hB : Below w.heap.size w W)
    (HC : ∀ (wr : World) (f : Int → Bool) (nn : Nat) y4 y17 y18 y96 y97 y98 y99 y100 y101 y102 y103 y104 y105 y106 y107 y108 y109 y110 y111 y112 y113 y114 y115 y116 y117 y118 y119 y120 y121 y122 y123 y124 y125 y126 y127 y128 y129 y130 y131 y132 y133 y134 y135 y136 y137 y138 y139 y140 y141 y142 y143 y144 y145 y146 y147 y148 y149 y150 y151 y152 y153 y154 y155 y156 y157 y158 y159 y160 y161 y162 y163 y164 y165 y166 y167 y168 y169, BMap wr b nn f → (∀ x, f x = true ↔ seenP N C i n x) → Below w.heap.size w wr → K ⟨(List.toArray (x0 :: x1 :: x2 :: x3 :: y4 :: (.slice bo n cx) :: (.int .i64 n) :: (.slice (some ⟨mp, 0, none⟩) n n) :: (.slice (some ⟨mt, 0, none⟩) n n) :: (.slice (some ⟨mc, 0, none⟩) n n) :: (.slice (some ⟨mo, 0, none⟩) n n) :: (.int .i64 i) :: x12 :: x13 :: (.map (some b)) :: (.int .i64 (cntT N n i n : Nat)) :: (.int .i64 (inC N Lc i n : Nat)) :: y17 :: y18 :: x19 :: x20 :: x21 :: x22 :: x23 :: x24 :: x25 :: x26 :: x27 :: x28 :: x29 :: x30 :: x31 :: x32 :: x33 :: x34 :: x35 :: x36 :: x37 :: x38 :: x39 :: x40 :: x41 :: x42 :: x43 :: x44 :: x45 :: x46 :: x47 :: x48 :: x49 :: x50 :: x51 :: x52 :: x53 :: x54 :: x55 :: x56 :: x57 :: x58 :: x59 :: x60 :: x61 :: x62 :: x63 :: x64 :: x65 :: x66 :: x67 :: x68 :: x69 :: x70 :: x71 :: x72 :: x73 :: x74 :: x75 :: x76 :: x77 :: x78 :: x79 :: x80 :: x81 :: x82 :: x83 :: x84 :: x85 :: x86 :: x87 :: x88 :: x89 :: x90 :: x91 :: x92 :: x93 :: x94 :: x95 :: y96 :: y97 :: y98 :: y99 :: y100 :: y101 :: y102 :: y103 :: y104 :: y105 :: y106 :: y107 :: y108 :: y109 :: y110 :: y111 :: y112 :: y113 :: y114 :: y115 :: y116 :: y117 :: y118 :: y119 :: y120 :: y121 :: y122 :: y123 :: y124 :: y125 :: y126 :: y127 :: y128 :: y129 :: y130 :: y131 :: y132 :: y133 :: y134 :: y135 :: y136 :: y137 :: y138 :: y139 :: y140 :: y141 :: y142 :: y143 :: y144 :: y145 :: y146 :: y147 :: y148 :: y149 :: y150 :: y151 :: y152 :: y153 :: y154 :: y155 :: y156 :: y157 :: y158 :: y159 :: y160 :: y161 :: y162 :: y163 :: y164 :: y165 :: y166 :: y167 :: y168 :: y169 :: x170 :: x171 :: x172 :: x173 :: x174 :: x175 :: x176 :: x177 :: x178 :: x179 :: x180 :: x181 :: x182 :: x183 :: x184 :: x185 :: x186 :: x187 :: x188 :: x189 :: x190 :: x191 :: x192 :: x193 :: x194 :: x195 :: x196 :: x197 :: x198 :: x199 :: x200 :: x201 :: x202 :: x203 :: x204 :: x205 :: x206 :: x207 :: x208 :: x209 :: x210 :: x211 :: x212 :: x213 :: x214 :: x215 :: x216 :: x217 :: x218 :: x219 :: x220 :: x221 :: x222 :: [])), []⟩ wr) :
    Code.wp Try.prog ((Try.f4.body.bind (inBlkS 2)).getD .skip) (Exit.inBlock 2 (Exit.then K Q')) ⟨(List.toArray (x0 :: x1 :: x2 :: x3 :: x4 :: (.slice bo n cx) :: (.int .i64 n) :: (.slice (some ⟨mp, 0, none⟩) n n) :: (.slice (some ⟨mt, 0, none⟩) n n) :: (.slice (some ⟨mc, 0, none⟩) n n) :: (.slice (some ⟨mo, 0, none⟩) n n) :: (.int .i64 i) :: x12 :: x13 :: (.map (some b)) :: (.int .i64 0) :: (.int .i64 0) :: (.int .i64 0) :: x18 :: x19 :: x20 :: x21 :: x22 :: x23 :: x24 :: x25 :: x26 :: x27 :: x28 :: x29 :: x30 :: x31 :: x32 :: x33 :: x34 :: x35 :: x36 :: x37 :: x38 :: x39 :: x40 :: x41 :: x42 :: x43 :: x44 :: x45 :: x46 :: x47 :: x48 :: x49 :: x50 :: x51 :: x52 :: x53 :: x54 :: x55 :: x56 :: x57 :: x58 :: x59 :: x60 :: x61 :: x62 :: x63 :: x64 :: x65 :: x66 :: x67 :: x68 :: x69 :: x70 :: x71 :: x72 :: x73 :: x74 :: x75 :: x76 :: x77 :: x78 :: x79 :: x80 :: x81 :: x82 :: x83 :: x84 :: x85 :: x86 :: x87 :: x88 :: x89 :: x90 :: x91 :: x92 :: x93 :: x94 :: x95 :: x96 :: x97 :: x98 :: x99 :: x100 :: x101 :: x102 :: x103 :: x104 :: x105 :: x106 :: x107 :: x108 :: x109 :: x110 :: x111 :: x112 :: x113 :: x114 :: x115 :: x116 :: x117 :: x118 :: x119 :: x120 :: x121 :: x122 :: x123 :: x124 :: x125 :: x126 :: x127 :: x128 :: x129 :: x130 :: x131 :: x132 :: x133 :: x134 :: x135 :: x136 :: x137 :: x138 :: x139 :: x140 :: x141 :: x142 :: x143 :: x144 :: x145 :: x146 :: x147 :: x148 :: x149 :: x150 :: x151 :: x152 :: x153 :: x154 :: x155 :: x156 :: x157 :: x158 :: x159 :: x160 :: x161 :: x162 :: x163 :: x164 :: x165 :: x166 :: x167 :: x168 :: x169 :: x170 :: x171 :: x172 :: x173 :: x174 :: x175 :: x176 :: x177 :: x178 :: x179 :: x180 :: x181 :: x182 :: x183 :: x184 :: x185 :: x186 :: x187 :: x188 :: x189 :: x190 :: x191 :: x192 :: x193 :: x194 :: x195 :: x196 :: x197 :: x198 :: x199 :: x200 :: x201 :: x202 :: x203 :: x204 :: x205 :: x206 :: x207 :: x208 :: x209 :: x210 :: x211 :: x212 :: x213 :: x214 :: x215 :: x216 :: x217 :: x218 :: x219 :: x220 :: x221 :: x222 :: [])), []⟩ W := by
  have HH : Hid _ := HC
  have HNear : Hid (∀ W i a, Below w.heap.size w W → i < n → a < n → Calls Try.prog 17 #[.slice bo n cx, .int .i64 (i : Nat), .int .i64 (a : Nat)] W fun r w' => r = .returned (.bool (nbB N i a)) ∧ Below W.heap.size W w') := hNear
  have HAll : Hid (∀ (W : World) a (ha : a < n), Below w.heap.size w W → W.cell? ⟨mp, a, none⟩ = some (.int .i64 (Lp.getD a 0)) ∧ W.cell? ⟨mc, a, none⟩ = some (.int .i64 (Lc.getD a 0)) ∧ W.cell? ⟨mo, a, none⟩ = some (.int .i64 (C.getD a 0))) := fun W a ha hb => by
    have g : ∀ {L : List Int}, L.length = n → ∀ h : a < L.length, L.getD a 0 = L[a] := fun _ h => by simp [List.getD, h]
    rw [g lp (by omega), g lc (by omega), g lo (by omega)]
    exact ⟨(hb.cell (p := ⟨mp, a, none⟩) (lt_cell (IB.cell hPa (j := a) (by omega)).1)).trans (IB.cell hPa (j := a) (by omega)).1, (hb.cell (p := ⟨mc, a, none⟩) (lt_cell (IB.cell hCo (j := a) (by omega)).1)).trans (IB.cell hCo (j := a) (by omega)).1, (hb.cell (p := ⟨mo, a, none⟩) (lt_cell (IB.cell hCl (j := a) (by omega)).1)).trans (IB.cell hCl (j := a) (by omega)).1⟩
  have HPar : Hid (∀ a, a < n → nbB N i a = true → Lp.getD a 0 = Lp.getD i 0) := hpar
  have HCol : Hid (∀ a, a < n → nbB N i a = true → C.getD a 0 ≠ C.getD i 0) := hcol
  have HC64 : Hid (∀ a, a < n → 0 ≤ C.getD a 0 ∧ C.getD a 0 ≤ 4096) := hc64
  have HM0 : Hid (BMap W b 0 (fun _ => false)) := hM
  have HB0 : Hid (Below w.heap.size w W) := hB
  have HBb : Hid (w.heap.size ≤ b) := hb
  have HIn : Hid (i < n) := hi
  have hii : (i : Int) < n := by omega
  clear HC hNear hPa hCo hCl lp lc lo hpar hcol hc64 hb hM hB
  conv => arg 2; whnf
  go_loopw [15, 16, 17, 18] (fun cv iv av _ wr => ∃ (a nn : Nat) (f : Int → Bool), a ≤ n ∧ nn ≤ a ∧ av = .int .i64 a ∧ cv = .int .i64 (cntT N n i a : Nat) ∧ iv = .int .i64 (inC N Lc i a : Nat) ∧ Hid (BMap wr b nn f) ∧ Hid (∀ x, f x = true ↔ seenP N C i a x) ∧ Hid (Below w.heap.size w wr)) (fun _ _ av _ _ => n - (intOf av).toNat)
  case atStart => exact ⟨0, 0, _, Nat.zero_le _, Nat.le_refl _, rfl, rfl, rfl, HM0, (fun x => ⟨fun h => (by cases h), fun h => (by obtain ⟨a, h, _⟩ := h; omega)⟩), HB0⟩
  case round =>
    clear HM0 HB0
    obtain ⟨a, nn, f, ha, hna, rfl, rfl, rfl, HM, HS, HB⟩ := hrel
    have hct := cntT_le N n i a
    have hct2 : cntT N n i a ≤ 400 := Nat.le_trans hct (Nat.le_trans (Nat.mul_le_mul ha (Nat.le_refl n)) (Nat.le_trans (Nat.mul_le_mul hn hn) (by decide)))
    have hin := inC_le N Lc i a
    by_cases hal : a < n
    · have HAl : Hid (a < n) := hal
      have hai : (a : Int) < n := by omega
      have hNr := HNear.out wr i a HB.out HIn.out hal
      have HCT : Hid (cntT N n i (a + 1) = cntT N n i a + (if nbB N i a then subT N i a n else 0)) := cntT_succ N n i a
      have HIC : Hid (inC N Lc i (a + 1) = inC N Lc i a + (if (nbB N i a && decide (0 ≤ Lc.getD a 0)) then 1 else 0)) := inC_succ N Lc i a
      have HSn : Hid (¬ (a < i ∧ nbB N i a = true) → ∀ x, seenP N C i (a + 1) x ↔ seenP N C i a x) := fun h x => seen_no h x
      have HSy : Hid (a < i → nbB N i a = true → ∀ x, seenP N C i (a + 1) x ↔ x = C.getD a 0 ∨ seenP N C i a x) := fun h1 h2 x => seen_yes h1 h2 x
      clear hct
      cases hnb : nbB N i a with
      | false =>
        rw [hnb] at hNr HCT HIC HSn
        simp only [Bool.false_and, Bool.false_eq_true, if_false, Nat.add_zero, and_false, not_false_eq_true, true_implies] at HCT HIC HSn
        have HS2 : Hid (∀ x, f x = true ↔ seenP N C i (a + 1) x) := fun x => (HS.out x).trans (HSn.out x).symm
        clear hnb HSy HSn
        generalize cntT N n i a = c0 at hct2 HCT ⊢
        generalize inC N Lc i a = i0 at hin HIC ⊢
        go_wp2_with (go_at_call 17; refine hNr.mono ?_; rintro r w5 ⟨rfl, hb5⟩)
        have HM5 : Hid (BMap w5 b nn f) := HM.out.new hb5
        have HB5 : Hid (Below w.heap.size w w5) := HB.out.trans (hb5.mono HB.out.size)
        go_roundw
        case rel => exact ⟨a + 1, nn, f, HAl.out, by omega, by go_num, by rw [HCT.out], by rw [HIC.out], HM5, HS2, HB5⟩
        case measure => have := HAl.out; simp [intOf]; omega
      | true =>
        rw [hnb] at hNr HCT HIC
        simp only [Bool.true_and, if_true] at HCT HIC
        have hpa := HPar.out a hal hnb
        have hca := HCol.out a hal hnb
        have HSy2 : Hid (a < i → ∀ x, seenP N C i (a + 1) x ↔ x = C.getD a 0 ∨ seenP N C i a x) := fun h => HSy.out h hnb
        have HSn2 : Hid (¬ a < i → ∀ x, seenP N C i (a + 1) x ↔ seenP N C i a x) := fun h => HSn.out (fun h2 => h h2.1)
        have hcb := HC64.out a hal
        have HL4 : Hid (subT N i a n ≤ n) := subT_le N i a n
        clear hnb HSy HSn
        go_upto_region 23 with (go_at_call 17; refine hNr.mono ?_; rintro r w5 ⟨rfl, hb5⟩)
        have HM5 : Hid (BMap w5 b nn f) := HM.out.new hb5
        have HB5 : Hid (Below w.heap.size w w5) := HB.out.trans (hb5.mono HB.out.size)
        clear hNr hb5 HM HB
        obtain ⟨Wd, hWd⟩ : ∃ Wd, World.drew w5 = Wd := ⟨_, rfl⟩
        have HBd : Hid (Below w.heap.size w Wd) := by show Below _ _ _; rw [← hWd]; exact bel_drewN HB5.out 1
        have HMd : Hid (BMap Wd b nn f) := by show BMap _ _ _ _; rw [← hWd]; exact HM5.out.new (bel_drewN (Below.refl _ _) 1)
        obtain ⟨s0, -, s2⟩ := HAll.out Wd a HAl.out HBd.out
        obtain ⟨s1, -, s3⟩ := HAll.out Wd i HIn.out HBd.out
        rw [hpa] at s0
        have HCe : Hid (∀ W : World, Below w.heap.size w W → W.cell? ⟨mc, a, none⟩ = some (.int .i64 (Lc.getD a 0)) ∧ W.cell? ⟨mo, a, none⟩ = some (.int .i64 (C.getD a 0))) := fun W hb => (HAll.out W a HAl.out hb).2
        generalize Lp.getD i 0 = pp at s0 s1
        generalize C.getD a 0 = ca at s2 hca HSy2 hcb HCe
        generalize C.getD i 0 = ci at s3 hca
        generalize Lc.getD a 0 = la at HIC HCe
        have hcc : (ca == ci) = false := by simpa using hca
        clear hpa hca
        refine wp_calm ?_
        refine wp_region_L [] (fun w' : World => w'.cell? ⟨mp, a, none⟩ = some (.int .i64 pp) ∧ w'.cell? ⟨mp, i, none⟩ = some (.int .i64 pp) ∧ w'.cell? ⟨mo, a, none⟩ = some (.int .i64 ca) ∧ w'.cell? ⟨mo, i, none⟩ = some (.int .i64 ci)) (by kernel_rfl) ?_
        rw [hWd]
        clear hWd
        have hS : (fun w' : World => w'.cell? ⟨mp, a, none⟩ = some (.int .i64 pp) ∧ w'.cell? ⟨mp, i, none⟩ = some (.int .i64 pp) ∧ w'.cell? ⟨mo, a, none⟩ = some (.int .i64 ca) ∧ w'.cell? ⟨mo, i, none⟩ = some (.int .i64 ci)) Wd := ⟨s0, s1, s2, s3⟩
        refine wpAnyL_take (i := 0) 106 (v := .slice (some ⟨mp, 0, none⟩) n n) rfl rfl (by kernel_rfl) (by kernel_rfl) (by kernel_rfl) (by kernel_rfl) (by kernel_rfl) (by kernel_rfl) (fun _ _ _ h => h) hS (by rfl) (by intro w' hSw; obtain ⟨y0, y1, y2, y3⟩ := hSw; go_simp <;> with_reducible rfl) ?_
        simp only [Act.put, List.setIfInBounds_toArray, List.set_cons_zero, List.set_cons_succ]
        refine wpAnyL_take (i := 1) 107 (v := .int .i64 a) rfl rfl (by kernel_rfl) (by kernel_rfl) (by kernel_rfl) (by kernel_rfl) (by kernel_rfl) (by kernel_rfl) (fun _ _ _ h => h) hS (by rfl) (by intro w' hSw; obtain ⟨y0, y1, y2, y3⟩ := hSw; go_simp <;> with_reducible rfl) ?_
        simp only [Act.put, List.setIfInBounds_toArray, List.set_cons_zero, List.set_cons_succ]
        refine wpAnyL_take (i := 2) 108 (v := .pointer (some ⟨mp, a, none⟩)) rfl rfl (by kernel_rfl) (by kernel_rfl) (by kernel_rfl) (by kernel_rfl) (by kernel_rfl) (by kernel_rfl) (fun _ _ _ h => h) hS (by rfl) (by intro w' hSw; obtain ⟨y0, y1, y2, y3⟩ := hSw; go_simp <;> with_reducible rfl) ?_
        simp only [Act.put, List.setIfInBounds_toArray, List.set_cons_zero, List.set_cons_succ]
        refine wpAnyL_take (i := 3) 109 (v := .int .i64 pp) rfl rfl (by kernel_rfl) (by kernel_rfl) (by kernel_rfl) (by kernel_rfl) (by kernel_rfl) (by kernel_rfl) (fun _ _ _ h => h) hS (by rfl) (by intro w' hSw; obtain ⟨y0, y1, y2, y3⟩ := hSw; go_simp <;> with_reducible rfl) ?_
        simp only [Act.put, List.setIfInBounds_toArray, List.set_cons_zero, List.set_cons_succ]
        refine wpAnyL_take (i := 4) 110 (v := .slice (some ⟨mp, 0, none⟩) n n) rfl rfl (by kernel_rfl) (by kernel_rfl) (by kernel_rfl) (by kernel_rfl) (by kernel_rfl) (by kernel_rfl) (fun _ _ _ h => h) hS (by rfl) (by intro w' hSw; obtain ⟨y0, y1, y2, y3⟩ := hSw; go_simp <;> with_reducible rfl) ?_
        simp only [Act.put, List.setIfInBounds_toArray, List.set_cons_zero, List.set_cons_succ]
        refine wpAnyL_take (i := 5) 111 (v := .int .i64 i) rfl rfl (by kernel_rfl) (by kernel_rfl) (by kernel_rfl) (by kernel_rfl) (by kernel_rfl) (by kernel_rfl) (fun _ _ _ h => h) hS (by rfl) (by intro w' hSw; obtain ⟨y0, y1, y2, y3⟩ := hSw; go_simp <;> with_reducible rfl) ?_
        simp only [Act.put, List.setIfInBounds_toArray, List.set_cons_zero, List.set_cons_succ]
        refine wpAnyL_take (i := 6) 112 (v := .pointer (some ⟨mp, i, none⟩)) rfl rfl (by kernel_rfl) (by kernel_rfl) (by kernel_rfl) (by kernel_rfl) (by kernel_rfl) (by kernel_rfl) (fun _ _ _ h => h) hS (by rfl) (by intro w' hSw; obtain ⟨y0, y1, y2, y3⟩ := hSw; go_simp <;> with_reducible rfl) ?_
        simp only [Act.put, List.setIfInBounds_toArray, List.set_cons_zero, List.set_cons_succ]
        refine wpAnyL_take (i := 7) 113 (v := .int .i64 pp) rfl rfl (by kernel_rfl) (by kernel_rfl) (by kernel_rfl) (by kernel_rfl) (by kernel_rfl) (by kernel_rfl) (fun _ _ _ h => h) hS (by rfl) (by intro w' hSw; obtain ⟨y0, y1, y2, y3⟩ := hSw; go_simp <;> with_reducible rfl) ?_
        simp only [Act.put, List.setIfInBounds_toArray, List.set_cons_zero, List.set_cons_succ]
        refine wpAnyL_take (i := 8) 114 (v := .bool false) rfl rfl (by kernel_rfl) (by kernel_rfl) (by kernel_rfl) (by kernel_rfl) (by kernel_rfl) (by kernel_rfl) (fun _ _ _ h => h) hS (by rfl) (by intro w' hSw; obtain ⟨y0, y1, y2, y3⟩ := hSw; go_simp <;> with_reducible rfl) ?_
        simp only [Act.put, List.setIfInBounds_toArray, List.set_cons_zero, List.set_cons_succ]
        refine wpAnyL_take (i := 9) 115 (v := .bool false) rfl rfl (by kernel_rfl) (by kernel_rfl) (by kernel_rfl) (by kernel_rfl) (by kernel_rfl) (by kernel_rfl) (fun _ _ _ h => h) hS (by rfl) (by intro w' hSw; obtain ⟨y0, y1, y2, y3⟩ := hSw; go_simp <;> with_reducible rfl) ?_
        simp only [Act.put, List.setIfInBounds_toArray, List.set_cons_zero, List.set_cons_succ]
        refine wpAnyL_take (i := 10) 116 (v := .slice (some ⟨mo, 0, none⟩) n n) rfl rfl (by kernel_rfl) (by kernel_rfl) (by kernel_rfl) (by kernel_rfl) (by kernel_rfl) (by kernel_rfl) (fun _ _ _ h => h) hS (by rfl) (by intro w' hSw; obtain ⟨y0, y1, y2, y3⟩ := hSw; go_simp <;> with_reducible rfl) ?_
        simp only [Act.put, List.setIfInBounds_toArray, List.set_cons_zero, List.set_cons_succ]
        refine wpAnyL_take (i := 11) 117 (v := .int .i64 a) rfl rfl (by kernel_rfl) (by kernel_rfl) (by kernel_rfl) (by kernel_rfl) (by kernel_rfl) (by kernel_rfl) (fun _ _ _ h => h) hS (by rfl) (by intro w' hSw; obtain ⟨y0, y1, y2, y3⟩ := hSw; go_simp <;> with_reducible rfl) ?_
        simp only [Act.put, List.setIfInBounds_toArray, List.set_cons_zero, List.set_cons_succ]
        refine wpAnyL_take (i := 12) 118 (v := .pointer (some ⟨mo, a, none⟩)) rfl rfl (by kernel_rfl) (by kernel_rfl) (by kernel_rfl) (by kernel_rfl) (by kernel_rfl) (by kernel_rfl) (fun _ _ _ h => h) hS (by rfl) (by intro w' hSw; obtain ⟨y0, y1, y2, y3⟩ := hSw; go_simp <;> with_reducible rfl) ?_
        simp only [Act.put, List.setIfInBounds_toArray, List.set_cons_zero, List.set_cons_succ]
        refine wpAnyL_take (i := 13) 119 (v := .int .i64 ca) rfl rfl (by kernel_rfl) (by kernel_rfl) (by kernel_rfl) (by kernel_rfl) (by kernel_rfl) (by kernel_rfl) (fun _ _ _ h => h) hS (by rfl) (by intro w' hSw; obtain ⟨y0, y1, y2, y3⟩ := hSw; go_simp <;> with_reducible rfl) ?_
        simp only [Act.put, List.setIfInBounds_toArray, List.set_cons_zero, List.set_cons_succ]
        refine wpAnyL_take (i := 14) 120 (v := .slice (some ⟨mo, 0, none⟩) n n) rfl rfl (by kernel_rfl) (by kernel_rfl) (by kernel_rfl) (by kernel_rfl) (by kernel_rfl) (by kernel_rfl) (fun _ _ _ h => h) hS (by rfl) (by intro w' hSw; obtain ⟨y0, y1, y2, y3⟩ := hSw; go_simp <;> with_reducible rfl) ?_
        simp only [Act.put, List.setIfInBounds_toArray, List.set_cons_zero, List.set_cons_succ]
        refine wpAnyL_take (i := 15) 121 (v := .int .i64 i) rfl rfl (by kernel_rfl) (by kernel_rfl) (by kernel_rfl) (by kernel_rfl) (by kernel_rfl) (by kernel_rfl) (fun _ _ _ h => h) hS (by rfl) (by intro w' hSw; obtain ⟨y0, y1, y2, y3⟩ := hSw; go_simp <;> with_reducible rfl) ?_
        simp only [Act.put, List.setIfInBounds_toArray, List.set_cons_zero, List.set_cons_succ]
        refine wpAnyL_take (i := 16) 122 (v := .pointer (some ⟨mo, i, none⟩)) rfl rfl (by kernel_rfl) (by kernel_rfl) (by kernel_rfl) (by kernel_rfl) (by kernel_rfl) (by kernel_rfl) (fun _ _ _ h => h) hS (by rfl) (by intro w' hSw; obtain ⟨y0, y1, y2, y3⟩ := hSw; go_simp <;> with_reducible rfl) ?_
        simp only [Act.put, List.setIfInBounds_toArray, List.set_cons_zero, List.set_cons_succ]
        refine wpAnyL_take (i := 17) 123 (v := .int .i64 ci) rfl rfl (by kernel_rfl) (by kernel_rfl) (by kernel_rfl) (by kernel_rfl) (by kernel_rfl) (by kernel_rfl) (fun _ _ _ h => h) hS (by rfl) (by intro w' hSw; obtain ⟨y0, y1, y2, y3⟩ := hSw; go_simp <;> with_reducible rfl) ?_
        simp only [Act.put, List.setIfInBounds_toArray, List.set_cons_zero, List.set_cons_succ]
        refine wpAnyL_take (i := 18) 124 (v := .bool false) rfl rfl (by kernel_rfl) (by kernel_rfl) (by kernel_rfl) (by kernel_rfl) (by kernel_rfl) (by kernel_rfl) (fun _ _ _ h => h) hS (by rfl) (by intro w' hSw; obtain ⟨y0, y1, y2, y3⟩ := hSw; go_simp <;> with_reducible rfl) ?_
        simp only [Act.put, List.setIfInBounds_toArray, List.set_cons_zero, List.set_cons_succ]
        refine wpAnyL_take (i := 19) 125 (v := .bool false) rfl rfl (by kernel_rfl) (by kernel_rfl) (by kernel_rfl) (by kernel_rfl) (by kernel_rfl) (by kernel_rfl) (fun _ _ _ h => h) hS (by rfl) (by intro w' hSw; obtain ⟨y0, y1, y2, y3⟩ := hSw; go_simp <;> with_reducible rfl) ?_
        simp only [Act.put, List.setIfInBounds_toArray, List.set_cons_zero, List.set_cons_succ]
        refine wpAnyL_done (by kernel_rfl) ?_ _
        clear hS
        clear s0 s1 s2 s3 HM5 HB5
        generalize cntT N n i a = c0 at hct2 HCT ⊢
        generalize inC N Lc i a = i0 at hin HIC ⊢
        by_cases hai : a < i
        · have hai2 : (a : Int) < i := by omega
          obtain ⟨W6, hrun, hM6, hF6⟩ := HMd.out.put (by unfold maxLen; omega) (x := ca) ⟨by omega, by omega⟩ true
          have HS2 : Hid (∀ x, (if x = ca then true else f x) = true ↔ seenP N C i (a + 1) x) := fun x => by
            rw [HSy2.out hai, ← HS.out x]
            by_cases e : x = ca
            · simp [e]
            · simp [e]
          have HM6 : Hid (BMap W6 b (nn + 1) (fun y => if y = ca then true else f y)) := hM6
          have HB6 : Hid (Below w.heap.size w W6) := HBd.out.trans (hF6.below HBd.out.size (fun k hk => by have := HBb.out; omega))
          obtain ⟨-, g1⟩ := HCe.out Wd HBd.out
          obtain ⟨g2, -⟩ := HCe.out W6 HB6.out
          clear hM6 hF6 HSy2 HSn2 hai HBd HMd
          by_cases hla : 0 ≤ la
          · rw [decide_eq_true hla] at HIC
            simp only [if_true] at HIC
            go_wp2
            refine ss_loop4 hn HIn.out HAl.out hct2 HNear.out HB6.out ?_
            intro wx y18 y143 y144 y145 y146 y147 y148 y149 y150 y151 y152 y153 y154 y155 y156 y157 y158 y159 y160 y161 y162 y163 y164 y165 y166 y167 y168 y169 hb7
            have HM7 : Hid (BMap wx b (nn + 1) (fun y => if y = ca then true else f y)) := HM6.out.new hb7
            have HB7 : Hid (Below w.heap.size w wx) := HB6.out.trans (hb7.mono HB6.out.size)
            have hL4 := HL4.out
            generalize subT N i a n = s4 at HCT hL4 ⊢
            go_wp2
            go_roundw
            case rel => exact ⟨a + 1, (nn + 1), (fun y => if y = ca then true else f y), HAl.out, by omega, by go_num, by rw [HCT.out], by rw [HIC.out]; go_num, HM7, HS2, HB7⟩
            case measure => have := HAl.out; simp [intOf]; omega
          · rw [decide_eq_false hla] at HIC
            simp only [Bool.false_eq_true, if_false, Nat.add_zero] at HIC
            have hla2 : la < 0 := by omega
            go_wp2
            refine ss_loop4 hn HIn.out HAl.out hct2 HNear.out HB6.out ?_
            intro wx y18 y143 y144 y145 y146 y147 y148 y149 y150 y151 y152 y153 y154 y155 y156 y157 y158 y159 y160 y161 y162 y163 y164 y165 y166 y167 y168 y169 hb7
            have HM7 : Hid (BMap wx b (nn + 1) (fun y => if y = ca then true else f y)) := HM6.out.new hb7
            have HB7 : Hid (Below w.heap.size w wx) := HB6.out.trans (hb7.mono HB6.out.size)
            have hL4 := HL4.out
            generalize subT N i a n = s4 at HCT hL4 ⊢
            go_wp2
            go_roundw
            case rel => exact ⟨a + 1, (nn + 1), (fun y => if y = ca then true else f y), HAl.out, by omega, by go_num, by rw [HCT.out], by rw [HIC.out], HM7, HS2, HB7⟩
            case measure => have := HAl.out; simp [intOf]; omega
        · have hai2 : (i : Int) ≤ a := by omega
          have HS2 : Hid (∀ x, f x = true ↔ seenP N C i (a + 1) x) := fun x => (HS.out x).trans (HSn2.out hai x).symm
          have HM6 : Hid (BMap Wd b nn f) := HMd
          have HB6 : Hid (Below w.heap.size w Wd) := HBd
          obtain ⟨g2, -⟩ := HCe.out Wd HBd.out
          clear HSy2 HSn2 hai HBd HMd
          by_cases hla : 0 ≤ la
          · rw [decide_eq_true hla] at HIC
            simp only [if_true] at HIC
            go_wp2
            refine ss_loop4 hn HIn.out HAl.out hct2 HNear.out HB6.out ?_
            intro wx y18 y143 y144 y145 y146 y147 y148 y149 y150 y151 y152 y153 y154 y155 y156 y157 y158 y159 y160 y161 y162 y163 y164 y165 y166 y167 y168 y169 hb7
            have HM7 : Hid (BMap wx b nn f) := HM6.out.new hb7
            have HB7 : Hid (Below w.heap.size w wx) := HB6.out.trans (hb7.mono HB6.out.size)
            have hL4 := HL4.out
            generalize subT N i a n = s4 at HCT hL4 ⊢
            go_wp2
            go_roundw
            case rel => exact ⟨a + 1, nn, f, HAl.out, by omega, by go_num, by rw [HCT.out], by rw [HIC.out]; go_num, HM7, HS2, HB7⟩
            case measure => have := HAl.out; simp [intOf]; omega
          · rw [decide_eq_false hla] at HIC
            simp only [Bool.false_eq_true, if_false, Nat.add_zero] at HIC
            have hla2 : la < 0 := by omega
            go_wp2
            refine ss_loop4 hn HIn.out HAl.out hct2 HNear.out HB6.out ?_
            intro wx y18 y143 y144 y145 y146 y147 y148 y149 y150 y151 y152 y153 y154 y155 y156 y157 y158 y159 y160 y161 y162 y163 y164 y165 y166 y167 y168 y169 hb7
            have HM7 : Hid (BMap wx b nn f) := HM6.out.new hb7
            have HB7 : Hid (Below w.heap.size w wx) := HB6.out.trans (hb7.mono HB6.out.size)
            have hL4 := HL4.out
            generalize subT N i a n = s4 at HCT hL4 ⊢
            go_wp2
            go_roundw
            case rel => exact ⟨a + 1, nn, f, HAl.out, by omega, by go_num, by rw [HCT.out], by rw [HIC.out], HM7, HS2, HB7⟩
            case measure => have := HAl.out; simp [intOf]; omega
    · obtain rfl : a = n := by omega
      clear hal
      go_wp2
      exact HH.out _ f nn _ _ _ _ _ _ _ _ _ _ _ _ _ _ _ _ _ _ _ _ _ _ _ _ _ _ _ _ _ _ _ _ _ _ _ _ _ _ _ _ _ _ _ _ _ _ _ _ _ _ _ _ _ _ _ _ _ _ _ _ _ _ _ _ _ _ _ _ _ _ _ _ _ _ _ _ _ HM.out HS.out HB.out
end Go.Proofs.Ytmpbdaogdahiiaa
end
