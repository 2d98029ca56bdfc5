import Derived.Test.YtidghoipmggklaaGreatGnRowM
import Derived.Test.YtidghoipmggklaaGreatPlMM
import Derived.Test.YtidghoipmggklaaGreatOrdLM
import Derived.WalkSmall
import Derived.Deep.QuietTactic
import Derived.BigQuiet
import Derived.BigRegion
import Derived.Deep.Cut
import Derived.Deep.DeepCutAuto
import Derived.Deep.CutBlock
import Derived.Test.YtidghoipmggklaaGreatPlRowM
/- plan: Workers, Parts, Assign; the law's awake. -/
namespace Go.Proofs.YtidghoipmggklaaGreat
open Go.RowKit
attribute [local go_sem] Oper.semAt_some
theorem pworkers {w : World} {v : Value} {L : List Int} (h : IS w v L) (hL : L.length * 8 ≤ 140737488355328) : Calls Tryz.prog 144 #[v] w fun r w' => ∃ v', r = .returned v' ∧ IO_ w' w.heap.size v' (risL L) ∧ Below w.heap.size w w' := by
  have h1 := pclone hL h
  obtain ⟨ao, c, rfl, _⟩ := h.shape
  clear h
  go_enter Tryz.func144, Tryz.ntmps144
  go_upto_region 2 with (go_at_call 81; refine h1.mono ?_; rintro r w1 ⟨v1, rfl, hr1, hb1⟩)
  have h2 := psort (by omega) hr1
  have HL : Hid (∀ k, v1.ownBlock = some k → w.heap.size ≤ k) := fun k hk => (GO.lt hr1 k hk).1
  have HB1 : Hid (Below w.heap.size w w1) := hb1
  clear h1 hr1 hb1
  go_upto_region 3 with (go_at_call 141; refine h2.mono ?_; rintro r w2 ⟨rfl, hr2, hf2⟩)
  have h3 := pcomp (by rw [srtI_len]; omega) hr2
  have HB2 : Hid (Below w.heap.size w w2) := HB1.out.trans (hf2.below HB1.out.size HL.out)
  clear h2 hr2 hf2
  go_wp2_with (go_at_call 189; refine h3.mono ?_; rintro r w3 ⟨v3, rfl, ho3, hr3, hf3⟩)
  go_ret
  refine ⟨v3, rfl, ?_, HB2.out.trans (hf3.below HB2.out.size HL.out)⟩
  have e : Lib.compact (srtI L) = risL L := compact_sorted L
  rw [← e]
  exact hr3
/-- The places of x, up to k. -/
def plcs (A : List Int) (x : Int) (k : Nat) : List Int := ((List.range k).filter (fun i => decide (A[i]? = some x))).map (fun i : Nat => (i : Int))
theorem plcs_succ (A : List Int) (x : Int) (k : Nat) : plcs A x (k + 1) = plcs A x k ++ (if A[k]? = some x then [(k : Int)] else []) := by
  unfold plcs
  rw [List.range_succ, List.filter_append, List.map_append]
  congr 1
  by_cases h : A[k]? = some x <;> simp [h]
theorem plcs_len (A : List Int) (x : Int) (k : Nat) : (plcs A x k).length ≤ k := by
  unfold plcs
  rw [List.length_map]
  have := List.length_filter_le (fun i => decide (A[i]? = some x)) (List.range k)
  rwa [List.length_range] at this
set_option maxRecDepth 100000 in
set_option maxHeartbeats 1000000 in
theorem pparts {w : World} {v : Value} {A : List Int} (x : Int) (h : IS w v A) (hA : A.length * 8 ≤ 140737488355328) : Calls Tryz.prog 80 #[v, .int .i64 x] w fun r w' => ∃ v', r = .returned v' ∧ IO_ w' w.heap.size v' (plcs A x A.length) ∧ Below w.heap.size w w' := by
  obtain ⟨ao, c, rfl, hc⟩ := h.shape
  have HV : Hid (∀ j (h : j < A.length), ∃ b off, ao = some ⟨b, off, none⟩ ∧ w.cell? ⟨b, off + j, none⟩ = some (.int .i64 A[j])) := fun j hj => IS.at_ h j hj
  obtain ⟨n, hn⟩ : ∃ n, A.length = n := ⟨_, rfl⟩
  have HN : Hid (A.length = n) := hn
  rw [hn] at hA hc ⊢
  clear h hn
  go_enter Tryz.func80, Tryz.ntmps80
  go_wp2
  go_loopw [5, 6, 7, 10] (fun pv _ _ i wr => ∃ k : Nat, k ≤ n ∧ i = .int .i64 k ∧ Hid (IO_ wr w.heap.size pv (plcs A x k)) ∧ Hid (Below w.heap.size w wr)) (fun _ _ _ i _ => n - (intOf i).toNat)
  case atStart => exact ⟨0, Nat.zero_le _, rfl, (show IO_ _ _ _ _ from GO.nil _ _ _ _ _), Below.refl _ _⟩
  case round =>
    obtain ⟨k, hk, rfl, HP, HB⟩ := hrel
    by_cases hlt : k < n
    · have HLt : Hid (k < n) := hlt
      have hkl : k < A.length := by rw [HN.out]; exact hlt
      obtain ⟨b, o, rfl, c0⟩ := HV.out k hkl
      have d0 : wr.cell? ⟨b, o + k, none⟩ = some (.int .i64 A[k]) := (HB.out.cell (p := ⟨b, o + k, none⟩) (glt_cell c0)).trans c0
      have HS : Hid (plcs A x (k + 1) = plcs A x k ++ (if A[k] = x then [(k : Int)] else [])) := by
        show _ = _
        rw [plcs_succ, List.getElem?_eq_getElem hkl]
        simp
      generalize A[k] = y at d0 HS
      have hpl : (plcs A x k).length ≤ k := plcs_len A x k
      have HPl : Hid ((plcs A x k).length ≤ k) := hpl
      clear c0 hkl hpl
      by_cases hy : y = x
      · have HS2 : Hid (plcs A x (k + 1) = plcs A x k ++ [(k : Int)]) := by show _ = _; rw [HS.out, if_pos hy]
        obtain ⟨ap, cp, he, _⟩ := GO.shape HP.out
        subst he
        subst hy
        clear HS
        go_upto_region 6 with (fail)
        go_wp2_with (at_builtin; refine wpl_appG gT_int rfl rfl rfl rfl (R := plcs A y k) (S := [(k : Int)]) (GO.new HP.out (gone_new _ _)) (GS.one (heap_alloc_new _ _) rfl 1 (Nat.le_refl _)) (by have := HPl.out; simp; omega) (by have := HB.out.size; simp; omega) ?_; intro v2 w2 ho2 hf2 _)
        have HB2 : Hid (Below w.heap.size w w2) := HB.out.trans (((gone_new _ _).mono HB.out.size).trans (hf2.below (by have := HB.out.size; simp; omega) (fun k hk => (GO.lt HP.out k hk).1)))
        go_roundw
        case rel => exact ⟨k + 1, HLt.out, by go_num, by show IO_ _ _ _ _; rw [HS2.out]; exact ho2, HB2⟩
        case measure => have := HLt.out; simp [intOf]; omega
      · have HS2 : Hid (plcs A x (k + 1) = plcs A x k) := by show _ = _; rw [HS.out, if_neg hy, List.append_nil]
        clear HS
        go_wp2
        go_roundw
        case rel => exact ⟨k + 1, HLt.out, by go_num, by show IO_ _ _ _ _; rw [HS2.out]; exact HP.out, HB⟩
        case measure => have := HLt.out; simp [intOf]; omega
    · obtain rfl : k = n := by omega
      clear hlt
      go_wp2
      go_ret
      exact ⟨_, rfl, HP.out, HB.out⟩
theorem gblk_set {w : World} {g i : Nat} {cs : Array Value} {t : TypeId} (v : Value) (h : w.heap[g]? = some (.cells cs t (0, 0))) : (w.setCell ⟨g, i, none⟩ v).heap[g]? = some (.cells (cs.setIfInBounds i v) t (0, 0)) := by
  have hlt := glt_blk h
  have h' : w.heap[g] = .cells cs t (0, 0) := by simpa [Array.getElem?_eq_getElem hlt] using h
  show (w.heap.modify g _)[g]? = _
  rw [Array.getElem?_eq_getElem (by simpa using hlt), Array.getElem_modify_self, h']
  rfl
/-- A block of ints, of one's own. -/
def JB (W : World) (m : Nat) (L : List Int) : Prop := W.heap[m]? = some (.cells (L.map (Value.int .i64)).toArray 3 (0, 0))
theorem JB.cell {W : World} {m : Nat} {L : List Int} (h : JB W m L) {j : Nat} (hj : j < L.length) : W.cell? ⟨m, j, none⟩ = some (.int .i64 L[j]) ∧ W.frozen? ⟨m, j, none⟩ = false := by
  unfold JB at h
  constructor
  · simp [World.cell?, h, hj]
  · simp [World.frozen?, h]
theorem JB.set {W : World} {m : Nat} {L : List Int} (h : JB W m L) (j : Nat) (x : Int) : JB (W.setCell ⟨m, j, none⟩ (.int .i64 x)) m (L.set j x) := by
  unfold JB at h ⊢
  rw [gblk_set _ h, List.setIfInBounds_toArray, List.map_set]
theorem JB.made (W : World) (n : Nat) : JB (W.alloc (.cells (madeCells #[.int .i64 0] n) 3)) W.heap.size (List.replicate n 0) := by
  unfold JB
  rw [heap_alloc_new]
  have : madeCells #[Value.int .i64 0] n = ((List.replicate n (0 : Int)).map (Value.int .i64)).toArray := by
    apply Array.ext
    · rw [size_madeCells]; simp
    · intro i h1 h2
      simp [madeCells, Nat.mod_one]
  rw [this]
theorem JB.own {W : World} {m B : Nat} {L : List Int} (h : JB W m L) (hB : B ≤ m) (hL : L.length ≤ maxLen) : IO_ W B (.slice (some ⟨m, 0, none⟩) L.length L.length) L := by
  rw [io_iff]
  exact ⟨by simp, .inr ⟨m, L.length, _, rfl, hB, h, Nat.le_refl _, hL, by simp, by rw [Nat.mul_one, ← List.map_take, List.take_length]⟩⟩
/-- In turn. -/
def turnP (R : List Int) (p k : Nat) : List Int := (List.range p).map (fun i => if i < k then R.getD (i % R.length) 0 else 0)
theorem turnP_len (R : List Int) (p k : Nat) : (turnP R p k).length = p := by simp [turnP]
theorem turnP_zero (R : List Int) (p : Nat) : turnP R p 0 = List.replicate p 0 := by
  unfold turnP
  rw [show (fun i : Nat => if i < 0 then R.getD (i % R.length) 0 else 0) = fun _ => (0 : Int) from by funext i; simp, List.map_const', List.length_range]
theorem turnP_set (R : List Int) (p k : Nat) (hk : k < p) : (turnP R p k).set k (R.getD (k % R.length) 0) = turnP R p (k + 1) := by
  apply List.ext_getElem?
  intro j
  rw [List.getElem?_set]
  unfold turnP
  rw [List.getElem?_map, List.getElem?_map]
  by_cases e : k = j
  · subst e
    simp [hk]
  · rw [if_neg e]
    by_cases hj : j < p
    · rw [List.getElem?_range hj]
      simp only [Option.map_some]
      have : (j < k) = (j < k + 1) := by simp; omega
      simp only [this]
    · rw [List.getElem?_eq_none (by simpa using hj)]
      rfl
theorem pmake (n : Nat) (hn : n ≤ 1000000) (W : World) : (Instr.makeSlice 67 (.int .i64 (n : Int)) (.int .i64 (n : Int))).run Tryz.prog W = .ok (.slice (some ⟨W.heap.size, 0, none⟩) n n) (W.alloc (.cells (madeCells #[.int .i64 0] n) 3)) := by
  cases h : Tryz.prog.info? 3 with
  | none =>
    have : (Tryz.prog.info? 3).isSome = true := by kernel_rfl
    rw [h] at this
    cases this
  | some i =>
    have h1 : (Tryz.prog.info? 3).map (·.zero) = some (some (.int .i64 0)) := by kernel_rfl
    have h2 : (Tryz.prog.info? 3).map (·.size) = some 1 := by kernel_rfl
    have h3 : (Tryz.prog.info? 3).map (·.bytes) = some 8 := by kernel_rfl
    rw [h] at h1 h2 h3
    have hz2 : i.bytes = 8 := by simpa using h3
    have hz1 : i.size = 1 := by simpa using h2
    have := run_make (P := Tryz.prog) W 67 3 i (.int .i64 0) Tryz.underlying67 h (by simpa using h1) .i64 .i64 n n (by omega) (by omega) (by rw [hz2]; omega) (by omega)
    simpa [hz1, Value.cells] using this
/-- What is given to whom. -/
def asgn (p : Int) (L : List Int) : List Int := if 0 ≤ p ∧ p ≤ 16 ∧ L ≠ [] then turnP (risL L) p.toNat p.toNat else []
set_option maxRecDepth 100000 in
set_option maxHeartbeats 1000000 in
theorem passign {w : World} {v : Value} {L : List Int} (p : Int) (h : IS w v L) (hL : L.length * 8 ≤ 140737488355328) : Calls Tryz.prog 216 #[.int .i64 p, v] w fun r w' => ∃ v', r = .returned v' ∧ IO_ w' w.heap.size v' (asgn p L) ∧ Below w.heap.size w w' := by
  have hW := pworkers h hL
  obtain ⟨ao, c, rfl, _⟩ := h.shape
  clear h
  by_cases h0 : p < 0
  · have HA : Hid (asgn p L = []) := by show _ = _; unfold asgn; rw [if_neg (by omega)]
    go_enter Tryz.func216, Tryz.ntmps216
    go_wp2
    go_ret
    exact ⟨_, rfl, by rw [HA.out]; exact GO.nil _ _ _ _ _, Below.refl _ _⟩
  · by_cases h16 : 16 < p
    · have HA : Hid (asgn p L = []) := by show _ = _; unfold asgn; rw [if_neg (by omega)]
      go_enter Tryz.func216, Tryz.ntmps216
      go_wp2
      go_ret
      exact ⟨_, rfl, by rw [HA.out]; exact GO.nil _ _ _ _ _, Below.refl _ _⟩
    · obtain ⟨n, rfl⟩ : ∃ n : Nat, p = n := ⟨p.toNat, by omega⟩
      have hn : n ≤ 16 := by omega
      have hp1 : ¬ (n : Int) < 0 := h0
      have hp2 : ¬ 16 < (n : Int) := h16
      by_cases hne : L = []
      · have HA : Hid (asgn (n : Int) L = []) := by show _ = _; unfold asgn; rw [if_neg (fun h => h.2.2 hne)]
        have HR : Hid (risL L = []) := risL_nil.2 hne
        rw [HR.out] at hW
        clear hne
        go_enter Tryz.func216, Tryz.ntmps216
        go_upto_region 4 with (go_at_call 144; refine hW.mono ?_; rintro r w1 ⟨v1, rfl, hr1, hb1⟩)
        obtain ⟨ao1, c1, rfl, _⟩ := GO.shape hr1
        go_wp2
        go_ret
        exact ⟨_, rfl, by rw [HA.out]; exact GO.nil _ _ _ _ _, hb1⟩
      · have HA : Hid (asgn (n : Int) L = turnP (risL L) n n) := by show _ = _; unfold asgn; rw [if_pos ⟨by omega, by omega, hne⟩, Int.toNat_natCast]
        have hRl : 0 < (risL L).length := by
          rcases Nat.eq_zero_or_pos (risL L).length with h | h
          · exact absurd (risL_nil.1 (List.eq_nil_of_length_eq_zero h)) hne
          · exact h
        have hRm : (risL L).length ≤ 140737488355328 := by have := risL_len L; omega
        generalize risL L = R at hW HA hRl hRm
        clear hne h0 h16
        go_enter Tryz.func216, Tryz.ntmps216
        go_upto_region 4 with (go_at_call 144; refine hW.mono ?_; rintro r w1 ⟨v1, rfl, hr1, hb1⟩)
        obtain ⟨ao1, c1, rfl, _, hg⟩ := GO.shape hr1
        obtain ⟨g, rfl⟩ := hg hRl
        have HR1 : Hid (IO_ w1 w.heap.size (.slice (some ⟨g, 0, none⟩) R.length c1) R) := hr1
        have HB1 : Hid (Below w.heap.size w w1) := hb1
        obtain ⟨m, hm⟩ : ∃ m, R.length = m := ⟨_, rfl⟩
        have HMm : Hid (R.length = m) := hm
        rw [hm] at hRl hRm ⊢
        clear hW hr1 hb1 hg hm
        have hm0 : ¬ (m : Int) = 0 := by omega
        have hmk := pmake n (by omega)
        go_upto_region 7 with (fail)
        generalize hWn : World.alloc _ _ = W
        have bW : Below w1.heap.size w1 W := by rw [← hWn]; exact gone_new _ _
        have HJ0 : Hid (JB W w1.heap.size (turnP R n 0)) := by show JB _ _ _; rw [turnP_zero, ← hWn]; exact JB.made _ _
        have HR2 : Hid (IO_ W w.heap.size (.slice (some ⟨g, 0, none⟩) m c1) R) := by have := GO.new HR1.out bW; rw [HMm.out] at this; exact this
        have HB2 : Hid (Below w.heap.size w W) := HB1.out.trans (bW.mono HB1.out.size)
        have HX1 : Hid (w.heap.size ≤ w1.heap.size) := HB1.out.size
        have HX2 : Hid (g < w1.heap.size) := (GO.lt HR1.out g rfl).2
        clear hWn bW HR1 HB1 hmk
        generalize w1.heap.size = q at HJ0 HX1 HX2 ⊢
        go_wp2
        go_loopw [7, 23] (fun _ i wr => ∃ k : Nat, k ≤ n ∧ i = .int .i64 k ∧ Hid (JB wr q (turnP R n k)) ∧ Hid (Fr W wr (fun j => j = q))) (fun _ i _ => n - (intOf i).toNat)
        case atStart => exact ⟨0, Nat.zero_le _, rfl, HJ0, Fr.refl _ _⟩
        case round =>
          obtain ⟨k, hk, rfl, HJ, HF⟩ := hrel
          by_cases hlt : k < n
          · have HLt : Hid (k < n) := hlt
            have hmod : k % m < m := Nat.mod_lt _ hRl
            have hR3 : IO_ wr w.heap.size (.slice (some ⟨g, 0, none⟩) m c1) R := GO.kept HR2.out HF.out (fun j hj e => by have := HX2.out; have hj2 : g = j := Option.some.inj hj; omega)
            have d0 := hR3.at_ (k % m) (by rw [HMm.out]; exact hmod)
            have HE : Hid (R.getD (k % R.length) 0 = R[k % m]'(by rw [HMm.out]; exact hmod)) := by
              show _ = _
              simp only [HMm.out, List.getD]
              rw [List.getElem?_eq_getElem (by rw [HMm.out]; exact hmod)]
              rfl
            generalize R[k % m]'(by rw [HMm.out]; exact hmod) = y at d0 HE
            have f0 := (JB.cell HJ.out (j := k) (by rw [turnP_len]; exact hlt))
            obtain ⟨f1, f2⟩ := f0
            clear hR3
            go_wp2
            go_roundw
            case rel => exact ⟨k + 1, HLt.out, by go_num, by show JB _ _ _; rw [← turnP_set R n k HLt.out, HE.out]; exact JB.set HJ.out k y, HF.out.trans (Fr.setCell (S := fun j => j = q) _ ⟨q, k, none⟩ _ rfl) (fun _ _ h => h)⟩
            case measure => have := HLt.out; simp [intOf]; omega
          · obtain rfl : k = n := by omega
            clear hlt
            go_wp2
            go_ret
            refine ⟨_, rfl, ?_, HB2.out.trans (HF.out.below HB2.out.size (fun j hj => by have := HX1.out; omega))⟩
            rw [HA.out]
            have := JB.own HJ.out HX1.out (by rw [turnP_len]; unfold maxLen; omega)
            rw [turnP_len] at this
            exact this
end Go.Proofs.YtidghoipmggklaaGreat
