import Derived.Test.YtnhijofnhflklaaGreatRnRunM
import Derived.Test.YtnhijofnhflklaaGreatRnDegM
import Derived.Test.YtnhijofnhflklaaGreatRnCheckM
import Derived.Test.YtnhijofnhflklaaGreatRnDec5M
import Derived.Deep.Cut
import Derived.Deep.DeepCutAuto
import Derived.Deep.CutBlock
import Derived.Test.YtnhijofnhflklaaGreatGrTakeM
import Derived.Deep.RegionHeld
import Derived.Test.YtnhijofnhflklaaGreatRegUM
section
/- degree on a graph of two vertices and an edge, on plain data. -/
namespace Go.Proofs.YtnhijofnhflklaaGreat
open Go.RowKit
theorem sortM_nil : sortM [] = [] := by simp [sortM]
theorem sortM_one (m : Msg) : sortM [m] = [m] := by simp [sortM]
theorem turn_e {f : PStep} {k step mny : Int} {bef : Nat → Option Int} {B : List Msg} {v : Vx} (h : toV B v.id = []) : turnP f k step bef mny B v = f step v [] bef mny := by
  unfold turnP
  rw [h, sortM_nil]
  rfl
theorem turn_s {f : PStep} {step mny : Int} {bef : Nat → Option Int} {B : List Msg} {v : Vx} {m : Msg} (h : toV B v.id = [m]) : turnP f 1 step bef mny B v = f step v [m] bef mny := by
  unfold turnP
  rw [h, sortM_one]
  rfl
theorem stepV_act {f : PStep} {k step mny : Int} {bef : Nat → Option Int} {s : St} {a : Acc} {i : Nat} {v : Vx} {o : POut} (hv : s.G[i]? = some v) (ha : act s v.id = true) (ht : turnP f k step bef mny s.B v = some o) (hm : mergeE a.gave o.agg = 0) :
    stepV f k step bef mny s a i = some ⟨⟨a.s.G.set i ⟨v.id, o.v, v.es⟩, fun y => if y = v.id then o.halt else a.s.H y, a.s.B⟩, mergeO a.gave o.agg, a.sent ++ o.sent, a.asked ++ o.asked⟩ := by
  unfold stepV
  rw [hv]
  show (if act s v.id = true then _ else _) = _
  rw [if_pos ha, ht]
  show (if mergeE a.gave o.agg = 0 then _ else _) = _
  rw [if_pos hm]
theorem stepV_not {f : PStep} {k step mny : Int} {bef : Nat → Option Int} {s : St} {a : Acc} {i : Nat} {v : Vx} (hv : s.G[i]? = some v) (ha : act s v.id = false) : stepV f k step bef mny s a i = some a := by
  unfold stepV
  rw [hv]
  show (if act s v.id = true then _ else _) = _
  rw [if_neg (by rw [ha]; decide)]
theorem runP_step {f : PStep} {k st se : Int} {n d : Nat} {s : St} {bef : Nat → Option Int} {a : Acc} (h1 : ¬ many s = 0) (h2 : ¬ (d : Int) = st) (h3 : stepsP f k d bef s.G.length s s.G.length = some a) (h4 : ¬ se < a.sent.length) :
    runP f k st se (n + 1) d s bef = runP f k st se n (d + 1) (closeP ⟨a.s.G, a.s.H, []⟩ a.sent a.asked) a.gave := by
  rw [runP, if_neg h1, if_neg h2, h3]
  show (if _ then _ else _) = _
  rw [if_neg h4]
theorem runP_done {f : PStep} {k st se : Int} {n d : Nat} {s : St} {bef : Nat → Option Int} (h1 : many s = 0) : runP f k st se (n + 1) d s bef = ⟨1, 0, d, valsOf s.G⟩ := by
  rw [runP, if_pos h1]
/-- The graph, with two values. -/
def awG (x y : Int) : List Vx := [⟨1, x, [⟨2, 0⟩]⟩, ⟨2, y, []⟩]
def awB : List Msg := [⟨1, 2, 0, 1⟩]
def awH : Int → Bool := fun y => if y = 2 then true else if y = 1 then true else false
def awO (n : Int) : Nat → Option Int := updA (updA (fun _ => none) 0 (some n)) 2 (some n)
def aw0 : Acc := ⟨⟨awG 1 0, awH, []⟩, mergeO (mergeO (fun _ => none) (awO 1)) (awO 0), awB, []⟩
theorem raw_st0 {mny : Int} {bef : Nat → Option Int} : stepsP degF 1 0 bef mny ⟨awG 0 0, fun _ => false, []⟩ 2 = some aw0 := by
  have e1 : stepsP degF 1 0 bef mny ⟨awG 0 0, fun _ => false, []⟩ 1 = some ⟨⟨awG 1 0, fun y => if y = 1 then true else false, []⟩, mergeO (fun _ => none) (awO 1), awB, []⟩ := by
    show stepV degF 1 0 bef mny ⟨awG 0 0, fun _ => false, []⟩ ⟨⟨awG 0 0, fun _ => false, []⟩, fun _ => none, [], []⟩ 0 = _
    rw [stepV_act (v := ⟨1, 0, [⟨2, 0⟩]⟩) (o := ⟨1, true, awB, [], awO 1⟩) rfl rfl (turn_e rfl) (by decide +kernel)]
    rfl
  show (stepsP degF 1 0 bef mny ⟨awG 0 0, fun _ => false, []⟩ 1).bind _ = _
  rw [e1]
  show stepV degF 1 0 bef mny ⟨awG 0 0, fun _ => false, []⟩ _ 1 = _
  rw [stepV_act (v := ⟨2, 0, []⟩) (o := ⟨0, true, [], [], awO 0⟩) rfl rfl (turn_e rfl) (by decide +kernel)]
  rfl
theorem raw_st1 {mny : Int} {bef : Nat → Option Int} {s : St} (h1 : s.G = awG 1 0) (h2 : s.B = awB) (h3 : s.H 1 = true) (h4 : s.H 2 = true) : stepsP degF 1 1 bef mny s 2 = some ⟨⟨awG 1 1, fun y => if y = 2 then true else s.H y, awB⟩, mergeO (fun _ => none) (fun _ => none), [], []⟩ := by
  obtain ⟨G, H, B⟩ := s
  cases h1
  cases h2
  replace h3 : H 1 = true := h3
  replace h4 : H 2 = true := h4
  have e1 : stepsP degF 1 1 bef mny ⟨awG 1 0, H, awB⟩ 1 = some ⟨⟨awG 1 0, H, awB⟩, fun _ => none, [], []⟩ := by
    show stepV degF 1 1 bef mny ⟨awG 1 0, H, awB⟩ _ 0 = _
    rw [stepV_not (v := ⟨1, 1, [⟨2, 0⟩]⟩) rfl (by unfold act; show (!H 1 || _) = false; rw [h3]; rfl)]
  show (stepsP degF 1 1 bef mny ⟨awG 1 0, H, awB⟩ 1).bind _ = _
  rw [e1]
  show stepV degF 1 1 bef mny ⟨awG 1 0, H, awB⟩ _ 1 = _
  rw [stepV_act (v := ⟨2, 0, []⟩) (o := ⟨1, true, [], [], fun _ => none⟩) rfl (by unfold act; show (!H 2 || _) = true; rw [h4]; rfl) (turn_s (m := ⟨1, 2, 0, 1⟩) rfl) (show mergeE (fun _ => none) (fun _ => none) = 0 by decide +kernel)]
  rfl
theorem thatC_nil : thatC [] = [] := by simp [thatC, sortU, dd]
theorem appG_nil (G : List Vx) : appG G [] = (G, 0) := by unfold appG; rw [thatC_nil]; rfl
theorem close_nil (s : St) (l : List Msg) : closeP s l [] = ⟨s.G, s.H, s.B ++ l.filter fun m => (ids s.G).contains m.t⟩ := by
  unfold closeP
  rw [appG_nil]
  have : forgetH s.H [] = s.H := by funext x; unfold forgetH; simp
  rw [this]
/-- What there is ahead of each superstep. -/
def AwI (d : Nat) (s : St) (_ : Nat → Option Int) : Prop := (d = 0 ∧ s = ⟨awG 0 0, fun _ => false, []⟩) ∨ (d = 1 ∧ s.G = awG 1 0 ∧ s.B = awB ∧ s.H 1 = true ∧ s.H 2 = true) ∨ (2 ≤ d ∧ s.G = awG 1 1 ∧ s.B = [] ∧ s.H 1 = true ∧ s.H 2 = true)
theorem AwI.gr {d : Nat} {s : St} {bef : Nat → Option Int} (h : AwI d s bef) : ∃ x y, I64 x ∧ I64 y ∧ s.G = awG x y := by
  rcases h with ⟨_, rfl⟩ | ⟨_, h, _⟩ | ⟨_, h, _⟩
  · exact ⟨0, 0, by unfold I64; decide, by unfold I64; decide, rfl⟩
  · exact ⟨1, 0, by unfold I64; decide, by unfold I64; decide, h⟩
  · exact ⟨1, 1, by unfold I64; decide, by unfold I64; decide, h⟩
theorem raw_ok {x y : Int} (hx : I64 x) (hy : I64 y) : ∀ v ∈ awG x y, v.ok := by
  intro v hv
  simp only [awG, List.mem_cons, List.not_mem_nil, or_false] at hv
  rcases hv with rfl | rfl
  · refine ⟨show I64 1 by unfold I64; decide, hx, fun e he => ?_, by simp⟩
    simp only [List.mem_cons, List.not_mem_nil, or_false] at he
    subst he
    exact ⟨by unfold I64; decide, by unfold I64; decide⟩
  · exact ⟨show I64 2 by unfold I64; decide, hy, fun e he => (by cases he), by simp⟩
theorem raw_fine (x y : Int) : Fine (awG x y) := by
  refine ⟨?_, fun v hv => ?_⟩
  · show List.Pairwise (· < ·) [(1 : Int), 2]
    simp
  · simp only [awG, List.mem_cons, List.not_mem_nil, or_false] at hv
    rcases hv with rfl | rfl
    · show List.Pairwise (· < ·) [(2 : Int)]
      simp
    · show List.Pairwise (· < ·) ([] : List Int)
      simp
theorem raw_up (x y : Int) : Up 1048576 (awG x y) := by
  refine ⟨by simp [awG], fun v hv => ?_⟩
  simp only [awG, List.mem_cons, List.not_mem_nil, or_false] at hv
  rcases hv with rfl | rfl <;> simp
theorem awB_ok : ∀ m ∈ awB, m.ok := by
  intro m hm
  simp only [awB, List.mem_cons, List.not_mem_nil, or_false] at hm
  subst hm
  exact ⟨by unfold I64; decide, by unfold I64; decide, by unfold I64; decide, by unfold I64; decide⟩
theorem raw_deg {d : Nat} {s : St} {bef : Nat → Option Int} (h : AwI d s bef) {v : Vx} (hv : v ∈ s.G) (ha : act s v.id = true) : d = 0 ∧ v.es.length ≤ 1 ∨ d = 1 ∧ v = ⟨2, 0, []⟩ ∧ s.B = awB := by
  rcases h with ⟨h0, rfl⟩ | ⟨h0, h1, h2, h3, h4⟩ | ⟨h0, h1, h2, h3, h4⟩
  · left
    refine ⟨h0, ?_⟩
    simp only [awG, List.mem_cons, List.not_mem_nil, or_false] at hv
    rcases hv with rfl | rfl <;> simp
  · right
    refine ⟨h0, ?_, h2⟩
    rw [h1] at hv
    simp only [awG, List.mem_cons, List.not_mem_nil, or_false] at hv
    rcases hv with rfl | rfl
    · exfalso
      unfold act at ha
      rw [h2, h3] at ha
      exact absurd ha (by decide)
    · rfl
  · exfalso
    rw [h1] at hv
    simp only [awG, List.mem_cons, List.not_mem_nil, or_false] at hv
    rcases hv with rfl | rfl
    · unfold act at ha
      rw [h2, h3] at ha
      exact absurd ha (by decide)
    · unfold act at ha
      rw [h2, h4] at ha
      exact absurd ha (by decide)
theorem okO_awO {n : Int} (h : 0 ≤ n ∧ n ≤ 1) : OkO (awO n) := by
  intro i y e
  unfold awO updA at e
  split at e
  · cases e; unfold I6; omega
  · split at e
    · cases e; unfold I6; omega
    · cases e
theorem okO_none : OkO (fun _ => none) := fun i y e => by cases e
theorem raw_runI : RunI (.string ⟨#[100, 101, 103, 114, 101, 101]⟩) degF 1 [] 9 AwI := by
  refine ⟨fun d s bef h => ?_, fun d s bef h => ?_, fun d s bef h => ?_, fun d s bef h => ?_, fun d s bef h => ?_, fun d s bef h v hv ha l hl => ?_, fun d s bef h a e hs => ?_⟩
  · obtain ⟨x, y, hx, hy, e⟩ := h.gr; rw [e]; exact raw_ok hx hy
  · obtain ⟨x, y, hx, hy, e⟩ := h.gr; rw [e]; exact raw_fine x y
  · obtain ⟨x, y, hx, hy, e⟩ := h.gr; rw [e]; simp [awG]
  · rcases h with ⟨_, rfl⟩ | ⟨_, _, h, _⟩ | ⟨_, _, h, _⟩
    · exact fun m hm => (by cases hm)
    · rw [h]; exact awB_ok
    · rw [h]; exact fun m hm => (by cases hm)
  · rcases h with ⟨_, rfl⟩ | ⟨_, _, h, _⟩ | ⟨_, _, h, _⟩
    · simp
    · rw [h]; simp [awB]
    · rw [h]; simp
  · rcases raw_deg h hv ha with ⟨rfl, h1⟩ | ⟨rfl, rfl, hB⟩
    · refine ⟨deg_0 (by omega), fun o ho => ?_⟩
      have e := ho
      unfold degF at e
      rw [if_pos (show ((0 : Nat) : Int) = 0 from rfl)] at e
      cases e
      refine ⟨?_, by simp, ?_⟩
      · show (toL v.id 1 v.es).length ≤ _
        rw [toL_len]; omega
      · exact okO_awO ⟨by omega, by omega⟩
    · have hl' : l = awB := by
        rw [hB] at hl
        have : toV awB (2 : Int) = [⟨1, 2, 0, 1⟩] := rfl
        rw [show (Vx.mk 2 0 []).id = 2 from rfl, this, sortM_one] at hl
        cases hl
        rfl
      subst hl'
      refine ⟨deg_1 (s := 1) (by decide) awB_ok (by simp [awB]) (by unfold I64; decide) (by decide +kernel) (by unfold I64; decide) (by decide +kernel) (by decide +kernel), fun o ho => ?_⟩
      have e := ho
      unfold degF at e
      rw [if_neg (by decide)] at e
      cases e
      exact ⟨by simp, by simp, okO_none⟩
  · have hlen : s.G.length = 2 := by obtain ⟨x, y, hx, hy, e⟩ := h.gr; rw [e]; rfl
    rw [hlen] at e
    rcases h with ⟨rfl, rfl⟩ | ⟨rfl, h1, h2, h3, h4⟩ | ⟨h0, h1, h2, h3, h4⟩
    · rw [show ((0 : Nat) : Int) = 0 from rfl, raw_st0] at e
      cases e
      refine ⟨raw_ok (by unfold I64; decide) (by unfold I64; decide), raw_fine _ _, raw_up _ _, awB_ok, fun m hm => (by cases hm), fun m hm => (by cases hm), by simp [aw0], .inr (.inl ⟨rfl, ?_, ?_, ?_, ?_⟩)⟩
      all_goals (show _ = _; unfold aw0; rw [close_nil]; try rfl)
    · rw [show ((1 : Nat) : Int) = 1 from rfl, raw_st1 h1 h2 h3 h4] at e
      cases e
      refine ⟨raw_ok (by unfold I64; decide) (by unfold I64; decide), raw_fine _ _, raw_up _ _, fun m hm => (by cases hm), fun m hm => (by cases hm), fun m hm => (by cases hm), by simp, .inr (.inr ⟨by omega, ?_, ?_, ?_, ?_⟩)⟩
      · rw [close_nil]
      · rw [close_nil]; rfl
      · rw [close_nil]; exact h3
      · rw [close_nil]; rfl
    · have e1 : ∀ (b : Nat → Option Int) (n m : Int), stepsP degF 1 n b m s 2 = some ⟨s, fun _ => none, [], []⟩ := by
        intro b n m
        obtain ⟨G, H, B⟩ := s
        cases h1
        cases h2
        replace h3 : H 1 = true := h3
        replace h4 : H 2 = true := h4
        have f1 : stepsP degF 1 n b m ⟨awG 1 1, H, []⟩ 1 = some ⟨⟨awG 1 1, H, []⟩, fun _ => none, [], []⟩ := by
          show stepV degF 1 n b m ⟨awG 1 1, H, []⟩ _ 0 = _
          rw [stepV_not (v := ⟨1, 1, [⟨2, 0⟩]⟩) rfl (by unfold act; show (!H 1 || _) = false; rw [h3]; rfl)]
        show (stepsP degF 1 n b m ⟨awG 1 1, H, []⟩ 1).bind _ = _
        rw [f1]
        show stepV degF 1 n b m ⟨awG 1 1, H, []⟩ _ 1 = _
        rw [stepV_not (v := ⟨2, 1, []⟩) rfl (by unfold act; show (!H 2 || _) = false; rw [h4]; rfl)]
        rfl
      rw [e1] at e
      cases e
      refine ⟨?_, ?_, ?_, fun m hm => (by cases hm), fun m hm => (by cases hm), fun m hm => (by cases hm), by simp, .inr (.inr ⟨by omega, ?_, ?_, ?_, ?_⟩)⟩
      · show ∀ v ∈ s.G, v.ok
        rw [h1]; exact raw_ok (by unfold I64; decide) (by unfold I64; decide)
      · show Fine s.G
        rw [h1]; exact raw_fine _ _
      · show Up _ s.G
        rw [h1]; exact raw_up _ _
      · rw [close_nil]; exact h1
      · rw [close_nil]; rfl
      · rw [close_nil]; exact h3
      · rw [close_nil]; exact h4
theorem raw_run : runP degF 1 9 9 1001 0 ⟨awG 0 0, fun _ => false, []⟩ (fun _ => none) = ⟨1, 0, 2, [⟨1, 1⟩, ⟨2, 1⟩]⟩ := by
  rw [show (1001 : Nat) = 1000 + 1 from rfl, runP_step (a := aw0) (by decide) (by decide) raw_st0 (by decide)]
  have c1 : closeP ⟨aw0.s.G, aw0.s.H, []⟩ aw0.sent aw0.asked = ⟨awG 1 0, awH, awB⟩ := by unfold aw0; rw [close_nil]; rfl
  rw [c1, show (1000 : Nat) = 999 + 1 from rfl, runP_step (by decide) (by decide) (raw_st1 rfl rfl rfl rfl) (by decide), close_nil, show (999 : Nat) = 998 + 1 from rfl, runP_done (by decide)]
  rfl
theorem raw_chk : jobN ⟨#[100, 101, 103, 114, 101, 101]⟩ (awG 0 0) [] 9 9 1 = 0 := by decide +kernel
end Go.Proofs.YtnhijofnhflklaaGreat
end

section
/- awake of layer 9 returns true. -/
namespace Go.Proofs.YtnhijofnhflklaaGreat
open Go.RowKit
theorem raw_at (w : World) : VxAt ((w.alloc (.cells #[.int .i64 2, .int .i64 0] 106)).alloc (.cells #[.int .i64 1, .int .i64 0, .slice (some ⟨w.heap.size, 0, none⟩) 1 1, .int .i64 2, .int .i64 0, .slice none 0 0] 82)) (fun _ => True) (some ⟨w.heap.size + 1, 0, none⟩) (awG 0 0) := by
  have e1 : ((w.alloc (.cells #[.int .i64 2, .int .i64 0] 106)).alloc (.cells #[.int .i64 1, .int .i64 0, .slice (some ⟨w.heap.size, 0, none⟩) 1 1, .int .i64 2, .int .i64 0, .slice none 0 0] 82)).heap[w.heap.size]? = some (.cells #[.int .i64 2, .int .i64 0] 106 (0, 0)) :=
    (Below.heap_alloc _ _ _ (by simp)).trans (heap_alloc_new _ _)
  have e2 : ((w.alloc (.cells #[.int .i64 2, .int .i64 0] 106)).alloc (.cells #[.int .i64 1, .int .i64 0, .slice (some ⟨w.heap.size, 0, none⟩) 1 1, .int .i64 2, .int .i64 0, .slice none 0 0] 82)).heap[w.heap.size + 1]? = some (.cells #[.int .i64 1, .int .i64 0, .slice (some ⟨w.heap.size, 0, none⟩) 1 1, .int .i64 2, .int .i64 0, .slice none 0 0] 82 (0, 0)) := by
    have := heap_alloc_new (w.alloc (.cells #[.int .i64 2, .int .i64 0] 106)) (.cells #[.int .i64 1, .int .i64 0, .slice (some ⟨w.heap.size, 0, none⟩) 1 1, .int .i64 2, .int .i64 0, .slice none 0 0] 82)
    rw [World.size_alloc] at this
    exact this
  generalize ((w.alloc (.cells #[.int .i64 2, .int .i64 0] 106)).alloc (.cells #[.int .i64 1, .int .i64 0, .slice (some ⟨w.heap.size, 0, none⟩) 1 1, .int .i64 2, .int .i64 0, .slice none 0 0] 82)) = W at e1 e2
  intro _
  refine ⟨w.heap.size + 1, 0, rfl, trivial, fun j hj => ?_⟩
  match j, hj with
  | 0, _ =>
    refine ⟨some ⟨w.heap.size, 0, none⟩, 1, by simp [World.cell?, e2, awG], by simp [World.cell?, e2, awG], by simp [World.cell?, e2, awG], fun _ => ⟨w.heap.size, 0, rfl, trivial, fun i hi => ?_⟩⟩
    match i, hi with
    | 0, _ => exact ⟨by simp [World.cell?, e1, awG], by simp [World.cell?, e1, awG]⟩
  | 1, _ => exact ⟨none, 0, by simp [World.cell?, e2, awG], by simp [World.cell?, e2, awG], by simp [World.cell?, e2, awG], fun h => absurd h (by simp [awG])⟩
theorem raw_runs {W : World} {ao : Option Addr} (h : VxAt W (fun _ => True) ao (awG 0 0)) : Calls Tryz.prog 10 #[.agg #[.string ⟨#[100, 101, 103, 114, 101, 101]⟩, .slice ao 2 2, .slice none 0 0, .int .i64 9, .int .i64 9, .int .i64 1]] W fun r w' => ∃ b vc, r = .returned (.tuple #[.agg #[.int .i64 1, .int .i64 0, .int .i64 2, .slice (some ⟨b, 0, none⟩) 2 vc], .int .i64 0]) ∧ w'.cell? ⟨b, 1, none⟩ = some (.int .i64 1) ∧ w'.cell? ⟨b, 3, none⟩ = some (.int .i64 1) ∧ Below W.heap.size W w' := by
  have hl : (awG 0 0).length ≤ 9223372036854775807 := by decide
  have hCk : ∀ W1, Below W.heap.size W W1 → Calls Tryz.prog 14 #[.agg #[.string ⟨#[100, 101, 103, 114, 101, 101]⟩, .slice ao 2 2, .slice none 0 0, .int .i64 9, .int .i64 9, .int .i64 1]] W1 fun r w' => r = .returned (.int .i64 0) ∧ Below W1.heap.size W1 w' := by
    intro W1 hb
    have := checkJ_any (w := W1) (P := fun _ => True) (go := ao) (po := none) (gn := 2) (gc := 2) (pn := 0) (pc := 0) (s := ⟨#[100, 101, 103, 114, 101, 101]⟩) (G := awG 0 0) (ps := []) (st := 9) (se := 9) (pa := 1) rfl rfl (h.new hb) (raw_ok (by unfold I64; decide) (by unfold I64; decide)) hl (fun e => absurd e (by simp)) (by simp)
    rw [raw_chk] at this
    exact this
  have hR := run_any (w := W) (P := fun _ => True) (go := ao) (po := none) (G := awG 0 0) (gn := 2) (gc := 2) (pn := 0) (pc := 0) (pr := .string ⟨#[100, 101, 103, 114, 101, 101]⟩) (ps := []) (st := 9) (se := 9) (pa := 1) (k := 1) (f := degF) (I := AwI) hCk rfl h rfl (fun e => absurd e (by simp)) (by decide) (by decide) combiner_deg raw_runI (.inl ⟨rfl, rfl⟩)
  refine hR.mono ?_
  rw [raw_run]
  rintro r w' ⟨⟨vo, vc, rfl, hK⟩, hb⟩
  obtain ⟨_, hE⟩ := own_eds hK
  obtain ⟨b, off, rfl, hP, hc⟩ := hE (by simp)
  obtain ⟨⟨hP1, hP2⟩, hP3⟩ : (W.heap.size ≤ b ∧ (Value.slice (some ⟨b, off, none⟩) 2 vc).ownBlock = some b) ∧ True := ⟨hP, trivial⟩
  have h0 : off = 0 := by
    rcases hK.2 with ⟨h1, _⟩ | ⟨g, cap, cur, h1, _⟩
    · cases h1
    · cases h1; rfl
  subst h0
  exact ⟨b, vc, rfl, (hc 0 (by simp)).2, (hc 1 (by simp)).2, hb⟩
set_option maxRecDepth 100000 in
set_option maxHeartbeats 800000 in
theorem rawake (w : World) : Calls Tryz.prog 13 #[] w fun r w' => r = .returned (.bool true) ∧ Below w.heap.size w w' := by
  have HR : Hid _ := raw_runs (raw_at w)
  go_enter Tryz.func13, Tryz.ntmps13
  go_upto_region 2 with (go_at_call 10; refine Calls.mono HR.out ?_; rintro r w1 ⟨b, vc, rfl, c1, c3, hb1⟩)
  have k1 : Below w.heap.size w w1 := ((one_new w _).alloc (by simp) _).trans (hb1.mono (by simp; omega))
  clear HR hb1
  have hk1 := k1.size
  generalize hW2 : World.alloc w1 _ = W2
  have hb2 : Below w1.heap.size w1 W2 := by rw [← hW2]; exact one_new _ _
  have hg : W2.heap[w1.heap.size]? = some (.cells #[.int .i64 1, .int .i64 0, .int .i64 2, .slice (some ⟨b, 0, none⟩) 2 vc] 32 (0, 0)) := by rw [← hW2]; exact heap_alloc_new _ _
  have d0 : W2.cell? ⟨w1.heap.size, 0, none⟩ = some (.int .i64 1) := by simp [World.cell?, hg]
  have d2 : W2.cell? ⟨w1.heap.size, 2, none⟩ = some (.int .i64 2) := by simp [World.cell?, hg]
  have d3 : W2.cell? ⟨w1.heap.size, 3, none⟩ = some (.slice (some ⟨b, 0, none⟩) 2 vc) := by simp [World.cell?, hg]
  have e1 : W2.cell? ⟨b, 1, none⟩ = some (.int .i64 1) := (hb2.cell (p := ⟨b, 1, none⟩) (lt_cell c1)).trans c1
  have e3 : W2.cell? ⟨b, 3, none⟩ = some (.int .i64 1) := (hb2.cell (p := ⟨b, 3, none⟩) (lt_cell c3)).trans c3
  have k2 : Below w.heap.size w W2 := k1.trans (hb2.mono k1.size)
  clear hW2 hb2 hg c1 c3 k1 hk1
  generalize w1.heap.size = g at *
  go_wp2
  go_ret
  exact ⟨rfl, k2⟩
end Go.Proofs.YtnhijofnhflklaaGreat
end

section
/- The law's Outcome: an outcome as the document has it. -/
namespace Go.Proofs.YtnhijofnhflklaaGreat
open Go.RowKit
/-- Between two values. -/
structure OL (w wr : World) (ib ob rb : Nat) (k er st : Int) (u : Value) (v : Value) (L : List Ed) : Prop where
  inn : OcBoxT wr 32 ib #[.int .i64 k, .int .i64 er, .int .i64 st, u]
  box : OcBoxT wr 45 ob #[.int .i64 k, .int .i64 er, .int .i64 st, v]
  res : OcBoxT wr 45 rb #[.int .i64 0, .int .i64 0, .int .i64 0, .slice none 0 0]
  own : KVT wr 123 (ob + 1) v L
  low : Below w.heap.size w wr
  sep : ib = w.heap.size ∧ rb = w.heap.size + 1 ∧ ob = w.heap.size + 2 ∧ ob + 1 ≤ wr.heap.size
theorem size_ocr : (Tryz.prog.info? 45).map (·.size) = some 4 := by kernel_rfl
theorem three_newO (w : World) (a b c : Obj) {W : World} (h : ((w.alloc a).alloc b).alloc c = W) : W.heap[w.heap.size]? = some a ∧ W.heap[w.heap.size + 1]? = some b ∧ W.heap[w.heap.size + 2]? = some c ∧ Below w.heap.size w W ∧ W.heap.size = w.heap.size + 3 := by
  subst h
  have h1 := heap_alloc_new w a
  have h2 := heap_alloc_new (w.alloc a) b
  have h3 := heap_alloc_new ((w.alloc a).alloc b) c
  simp only [World.size_alloc] at h2 h3
  refine ⟨(Below.heap_alloc _ _ _ (by simp; omega)).trans ((Below.heap_alloc _ _ _ (by simp)).trans h1), (Below.heap_alloc _ _ _ (by simp)).trans h2, h3, ((one_new w _).alloc (by simp) _).alloc (by simp; omega) _, by simp⟩
set_option maxRecDepth 100000 in
set_option maxHeartbeats 2000000 in
theorem outO_any {w : World} {P : Nat → Prop} {vo : Option Addr} {k er st : Int} {L : List Ed} (vc : Nat) (hE : EdAt w P vo L) (hl : L.length ≤ 256) :
    Calls Tryz.prog 16 #[.agg #[.int .i64 k, .int .i64 er, .int .i64 st, .slice vo L.length vc]] w fun r w' => (∃ ao c, r = .returned (.agg #[.int .i64 k, .int .i64 er, .int .i64 st, .slice ao L.length c]) ∧ EdAt w' (fun q => w.heap.size ≤ q) ao L) ∧ Below w.heap.size w w' := by
  obtain ⟨N, HN⟩ : ∃ N, Hid (N = L.length) := ⟨_, rfl⟩
  have hN : N ≤ 256 := by rw [HN.out]; exact hl
  have HE : Hid (EdAt w P vo L) := hE
  rw [← HN.out]
  clear hE hl
  go_enter Tryz.func16, Tryz.ntmps16
  go_upto_block 0 with (fail)
  generalize hW : World.alloc (World.alloc (World.alloc w _) _) _ = W3
  obtain ⟨k0, k1, k2, kb, ks⟩ := three_newO w _ _ _ hW
  have HL : Hid (OL w W3 w.heap.size (w.heap.size + 2) (w.heap.size + 1) k er st (.slice vo N vc) (.slice none 0 0) []) := ⟨k0, k2, k1, World.ownsRow_nil _ _ _ _, kb, rfl, rfl, rfl, by omega⟩
  clear hW k0 k1 k2 kb ks
  go_wp2
  go_loopw [4] (fun i wr => ∃ (j : Nat) (v : Value), j ≤ N ∧ i = .int .i64 j ∧ OL w wr w.heap.size (w.heap.size + 2) (w.heap.size + 1) k er st (.slice vo N vc) v (L.take j)) (fun i _ => N - (intOf i).toNat)
  case atStart => exact ⟨0, _, Nat.zero_le _, rfl, by rw [List.take_zero]; exact HL.out⟩
  case round =>
    obtain ⟨j, v, hj, rfl, hT⟩ := hrel
    have HT : Hid _ := hT
    clear hT HL
    have hsp := HT.out.sep
    have hov : ∀ q, v.ownBlock = some q → w.heap.size + 2 + 1 ≤ q ∧ q < wr.heap.size := fun q hq => World.ownsRow.lt HT.out.own q hq
    have c3 := (oc_cells HT.out.inn).2.2.2
    by_cases hlt : j < N
    · have hjL : j < L.length := by rw [← HN.out]; exact hlt
      obtain ⟨b, off, rfl, hP, hc⟩ := HE.out (by omega)
      obtain ⟨d0, d1⟩ := hc j hjL
      have hbw := lt_cell d0
      have e0 := (HT.out.low.cell (p := ⟨b, off + j * 2, none⟩) hbw).trans d0
      have e1 := (HT.out.low.cell (p := ⟨b, off + j * 2 + 1, none⟩) hbw).trans d1
      have HS : Hid (L.take (j + 1) = L.take j ++ [L[j]]) := List.take_succ_eq_append_getElem hjL
      have HTl : Hid ((L.take j).length ≤ 256) := by show _ ≤ _; rw [List.length_take]; omega
      generalize L[j] = z at e0 e1 HS
      clear hc d0 d1
      go_upto_region 5 with (fail)
      refine out_r5 (sv := v) (b0 := .int .i64 k) (b1 := .int .i64 er) (b2 := .int .i64 st) (ib := w.heap.size) (ob := w.heap.size + 2) (b := b) (off := off) (base := w.heap.size + 2 + 1) (j := j) (vn := N) (vc := vc) (z := z) (L := L.take j) rfl rfl rfl rfl c3 hlt e0 e1 (fun e => by rcases e with e | e | e; exact e; (have := hov _ e; omega); omega) (fun e => by rcases e with e | e | e; exact e; (have := hov _ e; omega); omega) HT.out.box HT.out.own (by omega) (fun e => by have := hov _ e; omega) HTl.out ?_
      intro X W9 ⟨hk9, hl9, hb9, hf9⟩
      have HL9 : Hid (OL w W9 w.heap.size (w.heap.size + 2) (w.heap.size + 1) k er st (.slice (some ⟨b, off, none⟩) N vc) (X 35) (L.take (j + 1))) := by
        have h := HT.out
        have hnot : ∀ q, q ≤ w.heap.size + 1 → ¬ (False ∨ v.ownBlock = some q ∨ q = w.heap.size + 2) := fun q hq e => by
          rcases e with e | e | e
          · exact e
          · have := hov _ e; omega
          · omega
        refine ⟨oc_fr hf9 (hnot _ (by omega)) h.inn, hb9, oc_fr hf9 (hnot _ (by omega)) h.res, by rw [HS.out]; exact hk9, h.low.trans (hf9.below h.low.size (fun q hq => ?_)), rfl, rfl, rfl, by have := hf9.size; omega⟩
        rcases hq with e | e | e
        · exact e.elim
        · have := hov _ e; omega
        · omega
      clear hk9 hl9 hb9 hf9 hov hsp e0 e1 c3
      simp only [puts]
      simp only [Act.put, List.setIfInBounds_toArray, List.set_cons_succ, List.set_cons_zero]
      go_wp2
      go_roundw
      case rel => exact ⟨j + 1, _, by omega, by go_num, HL9.out⟩
      case measure => simp [intOf]; omega
    · obtain rfl : j = N := by omega
      have hTl : L.take j = L := List.take_of_length_le (by rw [HN.out]; exact Nat.le_refl _)
      have HW : Hid (KVT wr 123 (w.heap.size + 2 + 1) v L) := by have := HT.out.own; rw [hTl] at this; exact this
      obtain ⟨ao, c, rfl⟩ := k_shape HW.out
      rw [← HN.out] at HT hov HW
      have HO7 : Hid (OcBoxT wr 45 (w.heap.size + 2) #[.int .i64 k, .int .i64 er, .int .i64 st, .slice ao j c]) := HT.out.box
      have HR7 : Hid (OcBoxT wr 45 (w.heap.size + 1) #[.int .i64 0, .int .i64 0, .int .i64 0, .slice none 0 0]) := HT.out.res
      clear hTl
      go_wp2_with (first
          | (refine wpList_load_row rfl 45 _ rfl (w.heap.size + 2) rfl 45 #[.int .i64 k, .int .i64 er, .int .i64 st, .slice ao j c] (0, 0) _ HO7.out Tryz.underlying45 rfl size_ocr ?_)
          | (refine wpList_store_row rfl 45 _ _ rfl (w.heap.size + 1) #[.int .i64 k, .int .i64 er, .int .i64 st, .slice ao j c] rfl rfl 45 #[.int .i64 0, .int .i64 0, .int .i64 0, .slice none 0 0] HR7.out size_ocr rfl (by simp [Value.oneCell']) ?_))
      refine bodyPost_ret (v := .agg #[.int .i64 k, .int .i64 er, .int .i64 st, .slice ao j c]) (results_cell_row Tryz.results16 _ _ (w.heap.size + 1) 45 _ (0, 0) _ rfl (setRow_heap _ _ _ _ _ _ HR7.out) Tryz.underlying45 rfl size_ocr) rfl ?_
      have hk8 := k_keep HW.out (fr_setRow wr (w.heap.size + 1) #[.int .i64 k, .int .i64 er, .int .i64 st, .slice ao j c]) (fun q hq e => by have := hov q hq; omega)
      exact ⟨⟨ao, ⟨c, rfl⟩, (own_eds hk8).2.mono (fun q _ hq => by have := hq.1; omega)⟩, k_setRow HT.out.low (by omega) _⟩
end Go.Proofs.YtnhijofnhflklaaGreat
end

section
/- What the document's VertexBytes and Bytes return. -/
namespace Go.Proofs.YtnhijofnhflklaaGreat
open Go.RowKit
theorem refsigned_g (k : Int) (w : World) (h : I64 k) :
    Calls Tryz.prog 51 #[.int .i64 k] w fun e w' => e = .returned (.string (str (sgB k))) ∧ Below w.heap.size w w' := by
  obtain ⟨h1, h2⟩ := h
  unfold sgB
  obtain ⟨m, HM⟩ : ∃ m : Nat, Hid (foldN k = m) := ⟨(foldN k).toNat, (Int.toNat_of_nonneg (fold_bd k h1 h2).1).symm⟩
  have hm : m < 18446744073709551616 := by have := fold_bd k h1 h2; have := HM.out; omega
  have hF : ∀ w, Calls Tryz.prog 103 #[.int .i64 k] w fun e w' => e = .returned (.int .u64 m) ∧ w' = w := fun w => by have := reffold_any k w h1 h2; rw [HM.out] at this; exact this
  rw [show (foldN k).toNat = m by rw [HM.out]; rfl]
  go_enter Tryz.func51, Tryz.ntmps51
  go_wp2_with (first
    | (go_at_call 103; refine (hF _).mono ?_; rintro r w1 ⟨rfl, rfl⟩)
    | (go_at_call 50; refine (refnumber_any m _ hm).mono ?_; rintro r w2 ⟨rfl, hh⟩))
  go_ret
  exact ⟨rfl, hh⟩
end Go.Proofs.YtnhijofnhflklaaGreat
end

section
/- Regions 1 and 5 of the document's own bytes of an outcome. -/
namespace Go.Proofs.YtnhijofnhflklaaGreat
open Go.RowKit
theorem ru64n {n : Nat} (h : n ≤ 9223372036854775807) : IntKind.u64.wrap (n : Int) = n := by rw [IntKind.wrap_u64]; omega
theorem rnum_any (n : Nat) (w : World) (h : n ≤ 9223372036854775807) : Calls Tryz.prog 50 #[.int .u64 (n : Int)] w fun e w' => e = .returned (.string (str (numB n))) ∧ Below w.heap.size w w' := refnumber_any n w (by omega)
theorem rsg_any (k : Int) (w : World) (h : I64 k) : Calls Tryz.prog 51 #[.int .i64 k] w fun e w' => e = .returned (.string (str (sgB k))) ∧ Below w.heap.size w w' := refsigned_g k w h
set_option maxRecDepth 100000 in
set_option maxHeartbeats 1000000 in
theorem rb_r1 {W0 : World} {A : Act} {bx kn en sn vn vc : Nat} {vo : Option Addr} {z0 z1 z2 z3 : ByteArray} {K : Act → World → Prop} {Q' : Exit → Act → World → Prop} (hsz : A.tmps.size = 50) (hA1 : A.eval (.tmp 1) = .pointer (some ⟨bx, 0, none⟩)) (hB : W0.heap[bx]? = some (.cells #[.int .i64 (kn : Int), .int .i64 (en : Int), .int .i64 (sn : Int), .slice vo vn vc] 45 (0, 0))) (hkn : kn ≤ 9223372036854775807) (hen : en ≤ 9223372036854775807) (hsn : sn ≤ 9223372036854775807) (hvn : vn ≤ 9223372036854775807) (hzkn : str (numB kn) = z0) (hzen : str (numB en) = z1) (hzsn : str (numB sn) = z2) (hzvn : str (numB vn) = z3) (hl1 : ¬ 9223372036854775807 < z0.size + z1.size) (hl2 : ¬ 9223372036854775807 < z0.size + z1.size + z2.size) (hl3 : ¬ 9223372036854775807 < z0.size + z1.size + z2.size + z3.size)
    (HK : ∀ X W, Below W0.heap.size W0 W → X 3 = .string (z0 ++ z1 ++ z2 ++ z3) → K (puts A X [5, 6, 7, 8, 9, 10, 11, 12, 13, 14, 15, 16, 17, 18, 19, 20, 21, 22, 23, 24, 3]) W) :
    Code.wp Tryz.prog ((Tryz.f15.body.bind (regionJ 1)).getD .skip) (Exit.then K Q') A W0 := by
  obtain ⟨ds, hds⟩ : ∃ ds, [5, 6, 7, 8, 9, 10, 11, 12, 13, 14, 15, 16, 17, 18, 19, 20, 21, 22, 23, 24, 3] = ds := ⟨_, rfl⟩
  have hin : ∀ {X : Nat → Value} {k : Nat}, k ∈ [5, 6, 7, 8, 9, 10, 11, 12, 13, 14, 15, 16, 17, 18, 19, 20, 21, 22, 23, 24, 3] → (puts A X ds).eval (.tmp k) = X k := fun hk => by rw [← hds]; exact eval_in hk (by rw [hsz]; revert hk; simp only [List.mem_cons, List.not_mem_nil, or_false]; omega)
  have hout : ∀ {X : Nat → Value} {k : Nat}, k ∉ [5, 6, 7, 8, 9, 10, 11, 12, 13, 14, 15, 16, 17, 18, 19, 20, 21, 22, 23, 24, 3] → (puts A X ds).eval (.tmp k) = A.eval (.tmp k) := fun hk => by rw [← hds]; exact eval_out hk
  have g0 : ds.getD 0 0 = 5 := by rw [← hds]; rfl
  have g1 : ds.getD 1 0 = 6 := by rw [← hds]; rfl
  have g2 : ds.getD 2 0 = 7 := by rw [← hds]; rfl
  have g3 : ds.getD 3 0 = 8 := by rw [← hds]; rfl
  have g4 : ds.getD 4 0 = 9 := by rw [← hds]; rfl
  have g5 : ds.getD 5 0 = 10 := by rw [← hds]; rfl
  have g6 : ds.getD 6 0 = 11 := by rw [← hds]; rfl
  have g7 : ds.getD 7 0 = 12 := by rw [← hds]; rfl
  have g8 : ds.getD 8 0 = 13 := by rw [← hds]; rfl
  have g9 : ds.getD 9 0 = 14 := by rw [← hds]; rfl
  have g10 : ds.getD 10 0 = 15 := by rw [← hds]; rfl
  have g11 : ds.getD 11 0 = 16 := by rw [← hds]; rfl
  have g12 : ds.getD 12 0 = 17 := by rw [← hds]; rfl
  have g13 : ds.getD 13 0 = 18 := by rw [← hds]; rfl
  have g14 : ds.getD 14 0 = 19 := by rw [← hds]; rfl
  have g15 : ds.getD 15 0 = 20 := by rw [← hds]; rfl
  have g16 : ds.getD 16 0 = 21 := by rw [← hds]; rfl
  have g17 : ds.getD 17 0 = 22 := by rw [← hds]; rfl
  have g18 : ds.getD 18 0 = 23 := by rw [← hds]; rfl
  have g19 : ds.getD 19 0 = 24 := by rw [← hds]; rfl
  have g20 : ds.getD 20 0 = 3 := by rw [← hds]; rfl
  obtain ⟨V, hV, e0, e1, e2, e3, e4, e5, e6, e7, e8, e9, e10, e11, e12, e13, e14, e15, e16, e17, e18, e19, e20⟩ : ∃ V : Nat → Value → World → Prop, (∀ i v W W', V i v W → Below W.heap.size W W' → V i v W') ∧ (∀ v W, V 0 v W = (v = .pointer (some ⟨bx, 0, none⟩))) ∧ (∀ v W, V 1 v W = (v = .int .i64 (kn : Int))) ∧ (∀ v W, V 2 v W = (v = .int .u64 (kn : Int))) ∧ (∀ v W, V 3 v W = (v = .string z0)) ∧ (∀ v W, V 4 v W = (v = .pointer (some ⟨bx, 1, none⟩))) ∧ (∀ v W, V 5 v W = (v = .int .i64 (en : Int))) ∧ (∀ v W, V 6 v W = (v = .int .u64 (en : Int))) ∧ (∀ v W, V 7 v W = (v = .string z1)) ∧ (∀ v W, V 8 v W = (v = .string (z0 ++ z1))) ∧ (∀ v W, V 9 v W = (v = .pointer (some ⟨bx, 2, none⟩))) ∧ (∀ v W, V 10 v W = (v = .int .i64 (sn : Int))) ∧ (∀ v W, V 11 v W = (v = .int .u64 (sn : Int))) ∧ (∀ v W, V 12 v W = (v = .string z2)) ∧ (∀ v W, V 13 v W = (v = .string (z0 ++ z1 ++ z2))) ∧ (∀ v W, V 14 v W = (v = .pointer (some ⟨bx, 3, none⟩))) ∧ (∀ v W, V 15 v W = (v = .slice vo vn vc)) ∧ (∀ v W, V 16 v W = (v = .int .i64 (vn : Int))) ∧ (∀ v W, V 17 v W = (v = .int .u64 (vn : Int))) ∧ (∀ v W, V 18 v W = (v = .string z3)) ∧ (∀ v W, V 19 v W = (v = .string (z0 ++ z1 ++ z2 ++ z3))) ∧ (∀ v W, V 20 v W = (v = .string (z0 ++ z1 ++ z2 ++ z3))) := by
    refine ⟨fun i v W => match i with
      | 0 => v = .pointer (some ⟨bx, 0, none⟩)
      | 1 => v = .int .i64 (kn : Int)
      | 2 => v = .int .u64 (kn : Int)
      | 3 => v = .string z0
      | 4 => v = .pointer (some ⟨bx, 1, none⟩)
      | 5 => v = .int .i64 (en : Int)
      | 6 => v = .int .u64 (en : Int)
      | 7 => v = .string z1
      | 8 => v = .string (z0 ++ z1)
      | 9 => v = .pointer (some ⟨bx, 2, none⟩)
      | 10 => v = .int .i64 (sn : Int)
      | 11 => v = .int .u64 (sn : Int)
      | 12 => v = .string z2
      | 13 => v = .string (z0 ++ z1 ++ z2)
      | 14 => v = .pointer (some ⟨bx, 3, none⟩)
      | 15 => v = .slice vo vn vc
      | 16 => v = .int .i64 (vn : Int)
      | 17 => v = .int .u64 (vn : Int)
      | 18 => v = .string z3
      | 19 => v = .string (z0 ++ z1 ++ z2 ++ z3)
      | 20 => v = .string (z0 ++ z1 ++ z2 ++ z3)
      | _ => True, ?_, fun _ _ => rfl, fun _ _ => rfl, fun _ _ => rfl, fun _ _ => rfl, fun _ _ => rfl, fun _ _ => rfl, fun _ _ => rfl, fun _ _ => rfl, fun _ _ => rfl, fun _ _ => rfl, fun _ _ => rfl, fun _ _ => rfl, fun _ _ => rfl, fun _ _ => rfl, fun _ _ => rfl, fun _ _ => rfl, fun _ _ => rfl, fun _ _ => rfl, fun _ _ => rfl, fun _ _ => rfl, fun _ _ => rfl⟩
    intro i v W W' h hb
    match i, h with
    | 0, h => exact h
    | 1, h => exact h
    | 2, h => exact h
    | 3, h => exact h
    | 4, h => exact h
    | 5, h => exact h
    | 6, h => exact h
    | 7, h => exact h
    | 8, h => exact h
    | 9, h => exact h
    | 10, h => exact h
    | 11, h => exact h
    | 12, h => exact h
    | 13, h => exact h
    | 14, h => exact h
    | 15, h => exact h
    | 16, h => exact h
    | 17, h => exact h
    | 18, h => exact h
    | 19, h => exact h
    | 20, h => exact h
    | _ + 21, _ => trivial
  conv => arg 2; whnf
  refine wp_region_U ds V (by kernel_rfl) (by kernel_rfl) (by rw [← hds]; kernel_rfl) hV ?_ ?_
  · refine ⟨?_, ?_, ?_, ?_, ?_, ?_, ?_, ?_, ?_, ?_, ?_, ?_, ?_, ?_, ?_, ?_, ?_, ?_, ?_, ?_, ?_, trivial⟩
    all_goals intro X W hb hd hu
    · have h0 := hout (X := X) (k := 1) (by decide)
      rw [hA1] at h0
      refine v_value (V := V 0) (v := .pointer (some ⟨bx, 0, none⟩)) ?_ (by rw [e0])
      generalize (puts A X ds).eval = ρ at h0 ⊢
      go_simp
    · have d0 := hd 0 (by kernel_rfl)
      rw [e0, g0] at d0
      have h0 := (hin (X := X) (k := 5) (by decide)).trans d0
      have c0 := (show W.cell? ⟨bx, 0, none⟩ = some (.int .i64 (kn : Int)) from (oc_cells ((hb.block _ (Array.getElem?_eq_some_iff.1 hB).1).trans hB)).1)
      refine v_value (V := V 1) (v := .int .i64 (kn : Int)) ?_ (by rw [e1])
      generalize (puts A X ds).eval = ρ at h0 ⊢
      go_simp
    · have d0 := hd 1 (by kernel_rfl)
      rw [e1, g1] at d0
      have h0 := (hin (X := X) (k := 6) (by decide)).trans d0
      have hcv := ru64n hkn
      refine v_value (V := V 2) (v := .int .u64 (kn : Int)) ?_ (by rw [e2])
      generalize (puts A X ds).eval = ρ at h0 ⊢
      go_simp
    · have d0 := hd 2 (by kernel_rfl)
      rw [e2, g2] at d0
      have h0 := (hin (X := X) (k := 7) (by decide)).trans d0
      have hf : (puts A X ds).eval (.func 50) = .func (.func 50) #[] #[] := rfl
      refine v_call (V := V 3) (f := 50) (vs := #[.int .u64 (kn : Int)]) ?_ ?_
      · generalize (puts A X ds).eval = ρ at h0 hf ⊢
        go_simp
      · refine (rnum_any kn W hkn).mono ?_
        rintro r W' ⟨rfl, hb'⟩
        exact ⟨_, rfl, by rw [e3, hzkn], hb'⟩
    · have h0 := hout (X := X) (k := 1) (by decide)
      rw [hA1] at h0
      refine v_value (V := V 4) (v := .pointer (some ⟨bx, 1, none⟩)) ?_ (by rw [e4])
      generalize (puts A X ds).eval = ρ at h0 ⊢
      go_simp
    · have d0 := hd 4 (by kernel_rfl)
      rw [e4, g4] at d0
      have h0 := (hin (X := X) (k := 9) (by decide)).trans d0
      have c1 := (show W.cell? ⟨bx, 1, none⟩ = some (.int .i64 (en : Int)) from (oc_cells ((hb.block _ (Array.getElem?_eq_some_iff.1 hB).1).trans hB)).2.1)
      refine v_value (V := V 5) (v := .int .i64 (en : Int)) ?_ (by rw [e5])
      generalize (puts A X ds).eval = ρ at h0 ⊢
      go_simp
    · have d0 := hd 5 (by kernel_rfl)
      rw [e5, g5] at d0
      have h0 := (hin (X := X) (k := 10) (by decide)).trans d0
      have hcv := ru64n hen
      refine v_value (V := V 6) (v := .int .u64 (en : Int)) ?_ (by rw [e6])
      generalize (puts A X ds).eval = ρ at h0 ⊢
      go_simp
    · have d0 := hd 6 (by kernel_rfl)
      rw [e6, g6] at d0
      have h0 := (hin (X := X) (k := 11) (by decide)).trans d0
      have hf : (puts A X ds).eval (.func 50) = .func (.func 50) #[] #[] := rfl
      refine v_call (V := V 7) (f := 50) (vs := #[.int .u64 (en : Int)]) ?_ ?_
      · generalize (puts A X ds).eval = ρ at h0 hf ⊢
        go_simp
      · refine (rnum_any en W hen).mono ?_
        rintro r W' ⟨rfl, hb'⟩
        exact ⟨_, rfl, by rw [e7, hzen], hb'⟩
    · have d0 := hd 3 (by kernel_rfl)
      rw [e3, g3] at d0
      have h0 := (hin (X := X) (k := 8) (by decide)).trans d0
      have d1 := hd 7 (by kernel_rfl)
      rw [e7, g7] at d1
      have h1 := (hin (X := X) (k := 12) (by decide)).trans d1
      have hs1 := hl1
      refine v_value (V := V 8) (v := .string (z0 ++ z1)) ?_ (by rw [e8])
      generalize (puts A X ds).eval = ρ at h0 h1 ⊢
      go_simp
    · have h0 := hout (X := X) (k := 1) (by decide)
      rw [hA1] at h0
      refine v_value (V := V 9) (v := .pointer (some ⟨bx, 2, none⟩)) ?_ (by rw [e9])
      generalize (puts A X ds).eval = ρ at h0 ⊢
      go_simp
    · have d0 := hd 9 (by kernel_rfl)
      rw [e9, g9] at d0
      have h0 := (hin (X := X) (k := 14) (by decide)).trans d0
      have c2 := (show W.cell? ⟨bx, 2, none⟩ = some (.int .i64 (sn : Int)) from (oc_cells ((hb.block _ (Array.getElem?_eq_some_iff.1 hB).1).trans hB)).2.2.1)
      refine v_value (V := V 10) (v := .int .i64 (sn : Int)) ?_ (by rw [e10])
      generalize (puts A X ds).eval = ρ at h0 ⊢
      go_simp
    · have d0 := hd 10 (by kernel_rfl)
      rw [e10, g10] at d0
      have h0 := (hin (X := X) (k := 15) (by decide)).trans d0
      have hcv := ru64n hsn
      refine v_value (V := V 11) (v := .int .u64 (sn : Int)) ?_ (by rw [e11])
      generalize (puts A X ds).eval = ρ at h0 ⊢
      go_simp
    · have d0 := hd 11 (by kernel_rfl)
      rw [e11, g11] at d0
      have h0 := (hin (X := X) (k := 16) (by decide)).trans d0
      have hf : (puts A X ds).eval (.func 50) = .func (.func 50) #[] #[] := rfl
      refine v_call (V := V 12) (f := 50) (vs := #[.int .u64 (sn : Int)]) ?_ ?_
      · generalize (puts A X ds).eval = ρ at h0 hf ⊢
        go_simp
      · refine (rnum_any sn W hsn).mono ?_
        rintro r W' ⟨rfl, hb'⟩
        exact ⟨_, rfl, by rw [e12, hzsn], hb'⟩
    · have d0 := hd 8 (by kernel_rfl)
      rw [e8, g8] at d0
      have h0 := (hin (X := X) (k := 13) (by decide)).trans d0
      have d1 := hd 12 (by kernel_rfl)
      rw [e12, g12] at d1
      have h1 := (hin (X := X) (k := 17) (by decide)).trans d1
      have hs1 := hl2
      refine v_value (V := V 13) (v := .string (z0 ++ z1 ++ z2)) ?_ (by rw [e13])
      generalize (puts A X ds).eval = ρ at h0 h1 ⊢
      go_simp
    · have h0 := hout (X := X) (k := 1) (by decide)
      rw [hA1] at h0
      refine v_value (V := V 14) (v := .pointer (some ⟨bx, 3, none⟩)) ?_ (by rw [e14])
      generalize (puts A X ds).eval = ρ at h0 ⊢
      go_simp
    · have d0 := hd 14 (by kernel_rfl)
      rw [e14, g14] at d0
      have h0 := (hin (X := X) (k := 19) (by decide)).trans d0
      have c3 := (show W.cell? ⟨bx, 3, none⟩ = some (.slice vo vn vc) from (oc_cells ((hb.block _ (Array.getElem?_eq_some_iff.1 hB).1).trans hB)).2.2.2)
      refine v_value (V := V 15) (v := .slice vo vn vc) ?_ (by rw [e15])
      generalize (puts A X ds).eval = ρ at h0 ⊢
      go_simp
    · have d0 := hd 15 (by kernel_rfl)
      rw [e15, g15] at d0
      have h0 := (hin (X := X) (k := 20) (by decide)).trans d0
      refine v_value (V := V 16) (v := .int .i64 (vn : Int)) ?_ (by rw [e16])
      generalize (puts A X ds).eval = ρ at h0 ⊢
      go_simp
    · have d0 := hd 16 (by kernel_rfl)
      rw [e16, g16] at d0
      have h0 := (hin (X := X) (k := 21) (by decide)).trans d0
      have hcv := ru64n hvn
      refine v_value (V := V 17) (v := .int .u64 (vn : Int)) ?_ (by rw [e17])
      generalize (puts A X ds).eval = ρ at h0 ⊢
      go_simp
    · have d0 := hd 17 (by kernel_rfl)
      rw [e17, g17] at d0
      have h0 := (hin (X := X) (k := 22) (by decide)).trans d0
      have hf : (puts A X ds).eval (.func 50) = .func (.func 50) #[] #[] := rfl
      refine v_call (V := V 18) (f := 50) (vs := #[.int .u64 (vn : Int)]) ?_ ?_
      · generalize (puts A X ds).eval = ρ at h0 hf ⊢
        go_simp
      · refine (rnum_any vn W hvn).mono ?_
        rintro r W' ⟨rfl, hb'⟩
        exact ⟨_, rfl, by rw [e18, hzvn], hb'⟩
    · have d0 := hd 13 (by kernel_rfl)
      rw [e13, g13] at d0
      have h0 := (hin (X := X) (k := 18) (by decide)).trans d0
      have d1 := hd 18 (by kernel_rfl)
      rw [e18, g18] at d1
      have h1 := (hin (X := X) (k := 23) (by decide)).trans d1
      have hs1 := hl3
      refine v_value (V := V 19) (v := .string (z0 ++ z1 ++ z2 ++ z3)) ?_ (by rw [e19])
      generalize (puts A X ds).eval = ρ at h0 h1 ⊢
      go_simp
    · have d0 := hd 19 (by kernel_rfl)
      rw [e19, g19] at d0
      have h0 := (hin (X := X) (k := 24) (by decide)).trans d0
      refine v_value (V := V 20) (v := .string (z0 ++ z1 ++ z2 ++ z3)) ?_ (by rw [e20])
      generalize (puts A X ds).eval = ρ at h0 ⊢
      go_simp
  · intro X W hb hall
    have r0 := hall 0 (by decide)
    rw [e0, g0] at r0
    have r1 := hall 1 (by decide)
    rw [e1, g1] at r1
    have r2 := hall 2 (by decide)
    rw [e2, g2] at r2
    have r3 := hall 3 (by decide)
    rw [e3, g3] at r3
    have r4 := hall 4 (by decide)
    rw [e4, g4] at r4
    have r5 := hall 5 (by decide)
    rw [e5, g5] at r5
    have r6 := hall 6 (by decide)
    rw [e6, g6] at r6
    have r7 := hall 7 (by decide)
    rw [e7, g7] at r7
    have r8 := hall 8 (by decide)
    rw [e8, g8] at r8
    have r9 := hall 9 (by decide)
    rw [e9, g9] at r9
    have r10 := hall 10 (by decide)
    rw [e10, g10] at r10
    have r11 := hall 11 (by decide)
    rw [e11, g11] at r11
    have r12 := hall 12 (by decide)
    rw [e12, g12] at r12
    have r13 := hall 13 (by decide)
    rw [e13, g13] at r13
    have r14 := hall 14 (by decide)
    rw [e14, g14] at r14
    have r15 := hall 15 (by decide)
    rw [e15, g15] at r15
    have r16 := hall 16 (by decide)
    rw [e16, g16] at r16
    have r17 := hall 17 (by decide)
    rw [e17, g17] at r17
    have r18 := hall 18 (by decide)
    rw [e18, g18] at r18
    have r19 := hall 19 (by decide)
    rw [e19, g19] at r19
    have r20 := hall 20 (by decide)
    rw [e20, g20] at r20
    have := HK X W hb (by first | assumption | exact ⟨by assumption, by assumption⟩ | exact ⟨by assumption, by assumption, by assumption⟩ | simp_all)
    rw [hds] at this
    exact this
set_option maxRecDepth 100000 in
set_option maxHeartbeats 1000000 in
theorem rb_r5 {W0 : World} {A : Act} {bx b off j vn vc : Nat} {kt kw : Int} {s0 z0 z1 : ByteArray} {Q : Exit → Act → World → Prop} (hsz : A.tmps.size = 50) (hA1 : A.eval (.tmp 1) = .pointer (some ⟨bx, 0, none⟩)) (hA3 : A.eval (.tmp 3) = .string s0) (hA4 : A.eval (.tmp 4) = .int .i64 (j : Int)) (hB3 : W0.cell? ⟨bx, 3, none⟩ = some (.slice (some ⟨b, off, none⟩) vn vc)) (hjn : j < vn) (hZkt : W0.cell? ⟨b, off + j * 2, none⟩ = some (.int .i64 kt)) (hZkw : W0.cell? ⟨b, off + j * 2 + 1, none⟩ = some (.int .i64 kw)) (hkt : I64 kt) (hkw : I64 kw) (hzkt : str (sgB kt) = z0) (hzkw : str (sgB kw) = z1) (hl1 : ¬ 9223372036854775807 < z0.size + z1.size) (hl2 : ¬ 9223372036854775807 < s0.size + (z0.size + z1.size))
    (HK : ∀ X W, Below W0.heap.size W0 W → X 3 = .string (s0 ++ (z0 ++ z1)) → Q .normal (puts A X [32, 33, 34, 35, 36, 37, 38, 39, 40, 41, 42, 43, 44, 45, 46, 47, 48, 3]) W) :
    Code.wp Tryz.prog ((Tryz.f15.body.bind (regionJ 5)).getD .skip) Q A W0 := by
  obtain ⟨ds, hds⟩ : ∃ ds, [32, 33, 34, 35, 36, 37, 38, 39, 40, 41, 42, 43, 44, 45, 46, 47, 48, 3] = ds := ⟨_, rfl⟩
  have hin : ∀ {X : Nat → Value} {k : Nat}, k ∈ [32, 33, 34, 35, 36, 37, 38, 39, 40, 41, 42, 43, 44, 45, 46, 47, 48, 3] → (puts A X ds).eval (.tmp k) = X k := fun hk => by rw [← hds]; exact eval_in hk (by rw [hsz]; revert hk; simp only [List.mem_cons, List.not_mem_nil, or_false]; omega)
  have hout : ∀ {X : Nat → Value} {k : Nat}, k ∉ [32, 33, 34, 35, 36, 37, 38, 39, 40, 41, 42, 43, 44, 45, 46, 47, 48, 3] → (puts A X ds).eval (.tmp k) = A.eval (.tmp k) := fun hk => by rw [← hds]; exact eval_out hk
  have g0 : ds.getD 0 0 = 32 := by rw [← hds]; rfl
  have g1 : ds.getD 1 0 = 33 := by rw [← hds]; rfl
  have g2 : ds.getD 2 0 = 34 := by rw [← hds]; rfl
  have g3 : ds.getD 3 0 = 35 := by rw [← hds]; rfl
  have g4 : ds.getD 4 0 = 36 := by rw [← hds]; rfl
  have g5 : ds.getD 5 0 = 37 := by rw [← hds]; rfl
  have g6 : ds.getD 6 0 = 38 := by rw [← hds]; rfl
  have g7 : ds.getD 7 0 = 39 := by rw [← hds]; rfl
  have g8 : ds.getD 8 0 = 40 := by rw [← hds]; rfl
  have g9 : ds.getD 9 0 = 41 := by rw [← hds]; rfl
  have g10 : ds.getD 10 0 = 42 := by rw [← hds]; rfl
  have g11 : ds.getD 11 0 = 43 := by rw [← hds]; rfl
  have g12 : ds.getD 12 0 = 44 := by rw [← hds]; rfl
  have g13 : ds.getD 13 0 = 45 := by rw [← hds]; rfl
  have g14 : ds.getD 14 0 = 46 := by rw [← hds]; rfl
  have g15 : ds.getD 15 0 = 47 := by rw [← hds]; rfl
  have g16 : ds.getD 16 0 = 48 := by rw [← hds]; rfl
  have g17 : ds.getD 17 0 = 3 := by rw [← hds]; rfl
  obtain ⟨V, hV, e0, e1, e2, e3, e4, e5, e6, e7, e8, e9, e10, e11, e12, e13, e14, e15, e16, e17⟩ : ∃ V : Nat → Value → World → Prop, (∀ i v W W', V i v W → Below W.heap.size W W' → V i v W') ∧ (∀ v W, V 0 v W = (v = .string s0)) ∧ (∀ v W, V 1 v W = (v = .pointer (some ⟨bx, 3, none⟩))) ∧ (∀ v W, V 2 v W = (v = .slice (some ⟨b, off, none⟩) vn vc)) ∧ (∀ v W, V 3 v W = (v = .int .i64 (j : Int))) ∧ (∀ v W, V 4 v W = (v = .pointer (some ⟨b, off + j * 2, none⟩))) ∧ (∀ v W, V 5 v W = (v = .pointer (some ⟨b, off + j * 2, none⟩))) ∧ (∀ v W, V 6 v W = (v = .int .i64 kt)) ∧ (∀ v W, V 7 v W = (v = .string z0)) ∧ (∀ v W, V 8 v W = (v = .pointer (some ⟨bx, 3, none⟩))) ∧ (∀ v W, V 9 v W = (v = .slice (some ⟨b, off, none⟩) vn vc)) ∧ (∀ v W, V 10 v W = (v = .int .i64 (j : Int))) ∧ (∀ v W, V 11 v W = (v = .pointer (some ⟨b, off + j * 2, none⟩))) ∧ (∀ v W, V 12 v W = (v = .pointer (some ⟨b, off + j * 2 + 1, none⟩))) ∧ (∀ v W, V 13 v W = (v = .int .i64 kw)) ∧ (∀ v W, V 14 v W = (v = .string z1)) ∧ (∀ v W, V 15 v W = (v = .string (z0 ++ z1))) ∧ (∀ v W, V 16 v W = (v = .string (s0 ++ (z0 ++ z1)))) ∧ (∀ v W, V 17 v W = (v = .string (s0 ++ (z0 ++ z1)))) := by
    refine ⟨fun i v W => match i with
      | 0 => v = .string s0
      | 1 => v = .pointer (some ⟨bx, 3, none⟩)
      | 2 => v = .slice (some ⟨b, off, none⟩) vn vc
      | 3 => v = .int .i64 (j : Int)
      | 4 => v = .pointer (some ⟨b, off + j * 2, none⟩)
      | 5 => v = .pointer (some ⟨b, off + j * 2, none⟩)
      | 6 => v = .int .i64 kt
      | 7 => v = .string z0
      | 8 => v = .pointer (some ⟨bx, 3, none⟩)
      | 9 => v = .slice (some ⟨b, off, none⟩) vn vc
      | 10 => v = .int .i64 (j : Int)
      | 11 => v = .pointer (some ⟨b, off + j * 2, none⟩)
      | 12 => v = .pointer (some ⟨b, off + j * 2 + 1, none⟩)
      | 13 => v = .int .i64 kw
      | 14 => v = .string z1
      | 15 => v = .string (z0 ++ z1)
      | 16 => v = .string (s0 ++ (z0 ++ z1))
      | 17 => v = .string (s0 ++ (z0 ++ z1))
      | _ => True, ?_, fun _ _ => rfl, fun _ _ => rfl, fun _ _ => rfl, fun _ _ => rfl, fun _ _ => rfl, fun _ _ => rfl, fun _ _ => rfl, fun _ _ => rfl, fun _ _ => rfl, fun _ _ => rfl, fun _ _ => rfl, fun _ _ => rfl, fun _ _ => rfl, fun _ _ => rfl, fun _ _ => rfl, fun _ _ => rfl, fun _ _ => rfl, fun _ _ => rfl⟩
    intro i v W W' h hb
    match i, h with
    | 0, h => exact h
    | 1, h => exact h
    | 2, h => exact h
    | 3, h => exact h
    | 4, h => exact h
    | 5, h => exact h
    | 6, h => exact h
    | 7, h => exact h
    | 8, h => exact h
    | 9, h => exact h
    | 10, h => exact h
    | 11, h => exact h
    | 12, h => exact h
    | 13, h => exact h
    | 14, h => exact h
    | 15, h => exact h
    | 16, h => exact h
    | 17, h => exact h
    | _ + 18, _ => trivial
  conv => arg 2; whnf
  refine wp_region_U ds V (by kernel_rfl) (by kernel_rfl) (by rw [← hds]; kernel_rfl) hV ?_ ?_
  · refine ⟨?_, ?_, ?_, ?_, ?_, ?_, ?_, ?_, ?_, ?_, ?_, ?_, ?_, ?_, ?_, ?_, ?_, ?_, trivial⟩
    all_goals intro X W hb hd hu
    · have o0 := hu 17 (by decide) (by kernel_rfl)
      rw [g17, hA3] at o0
      have h0 := (hin (X := X) (k := 3) (by decide)).trans o0
      refine v_value (V := V 0) (v := .string s0) ?_ (by rw [e0])
      generalize (puts A X ds).eval = ρ at h0 ⊢
      go_simp
    · have h0 := hout (X := X) (k := 1) (by decide)
      rw [hA1] at h0
      refine v_value (V := V 1) (v := .pointer (some ⟨bx, 3, none⟩)) ?_ (by rw [e1])
      generalize (puts A X ds).eval = ρ at h0 ⊢
      go_simp
    · have d0 := hd 1 (by kernel_rfl)
      rw [e1, g1] at d0
      have h0 := (hin (X := X) (k := 33) (by decide)).trans d0
      have c3 := (hb.cell (p := ⟨bx, 3, none⟩) (lt_cell hB3)).trans hB3
      refine v_value (V := V 2) (v := .slice (some ⟨b, off, none⟩) vn vc) ?_ (by rw [e2])
      generalize (puts A X ds).eval = ρ at h0 ⊢
      go_simp
    · have h0 := hout (X := X) (k := 4) (by decide)
      rw [hA4] at h0
      refine v_value (V := V 3) (v := .int .i64 (j : Int)) ?_ (by rw [e3])
      generalize (puts A X ds).eval = ρ at h0 ⊢
      go_simp
    · have d0 := hd 2 (by kernel_rfl)
      rw [e2, g2] at d0
      have h0 := (hin (X := X) (k := 34) (by decide)).trans d0
      have d1 := hd 3 (by kernel_rfl)
      rw [e3, g3] at d1
      have h1 := (hin (X := X) (k := 35) (by decide)).trans d1
      refine v_value (V := V 4) (v := .pointer (some ⟨b, off + j * 2, none⟩)) ?_ (by rw [e4])
      generalize (puts A X ds).eval = ρ at h0 h1 ⊢
      go_simp
    · have d0 := hd 4 (by kernel_rfl)
      rw [e4, g4] at d0
      have h0 := (hin (X := X) (k := 36) (by decide)).trans d0
      refine v_value (V := V 5) (v := .pointer (some ⟨b, off + j * 2, none⟩)) ?_ (by rw [e5])
      generalize (puts A X ds).eval = ρ at h0 ⊢
      go_simp
    · have d0 := hd 5 (by kernel_rfl)
      rw [e5, g5] at d0
      have h0 := (hin (X := X) (k := 37) (by decide)).trans d0
      have c0 := (hb.cell (p := ⟨b, off + j * 2, none⟩) (lt_cell hZkt)).trans hZkt
      refine v_value (V := V 6) (v := .int .i64 kt) ?_ (by rw [e6])
      generalize (puts A X ds).eval = ρ at h0 ⊢
      go_simp
    · have d0 := hd 6 (by kernel_rfl)
      rw [e6, g6] at d0
      have h0 := (hin (X := X) (k := 38) (by decide)).trans d0
      have hf : (puts A X ds).eval (.func 51) = .func (.func 51) #[] #[] := rfl
      refine v_call (V := V 7) (f := 51) (vs := #[.int .i64 kt]) ?_ ?_
      · generalize (puts A X ds).eval = ρ at h0 hf ⊢
        go_simp
      · refine (rsg_any kt W hkt).mono ?_
        rintro r W' ⟨rfl, hb'⟩
        exact ⟨_, rfl, by rw [e7, hzkt], hb'⟩
    · have h0 := hout (X := X) (k := 1) (by decide)
      rw [hA1] at h0
      refine v_value (V := V 8) (v := .pointer (some ⟨bx, 3, none⟩)) ?_ (by rw [e8])
      generalize (puts A X ds).eval = ρ at h0 ⊢
      go_simp
    · have d0 := hd 8 (by kernel_rfl)
      rw [e8, g8] at d0
      have h0 := (hin (X := X) (k := 40) (by decide)).trans d0
      have c3 := (hb.cell (p := ⟨bx, 3, none⟩) (lt_cell hB3)).trans hB3
      refine v_value (V := V 9) (v := .slice (some ⟨b, off, none⟩) vn vc) ?_ (by rw [e9])
      generalize (puts A X ds).eval = ρ at h0 ⊢
      go_simp
    · have h0 := hout (X := X) (k := 4) (by decide)
      rw [hA4] at h0
      refine v_value (V := V 10) (v := .int .i64 (j : Int)) ?_ (by rw [e10])
      generalize (puts A X ds).eval = ρ at h0 ⊢
      go_simp
    · have d0 := hd 9 (by kernel_rfl)
      rw [e9, g9] at d0
      have h0 := (hin (X := X) (k := 41) (by decide)).trans d0
      have d1 := hd 10 (by kernel_rfl)
      rw [e10, g10] at d1
      have h1 := (hin (X := X) (k := 42) (by decide)).trans d1
      refine v_value (V := V 11) (v := .pointer (some ⟨b, off + j * 2, none⟩)) ?_ (by rw [e11])
      generalize (puts A X ds).eval = ρ at h0 h1 ⊢
      go_simp
    · have d0 := hd 11 (by kernel_rfl)
      rw [e11, g11] at d0
      have h0 := (hin (X := X) (k := 43) (by decide)).trans d0
      refine v_value (V := V 12) (v := .pointer (some ⟨b, off + j * 2 + 1, none⟩)) ?_ (by rw [e12])
      generalize (puts A X ds).eval = ρ at h0 ⊢
      go_simp
    · have d0 := hd 12 (by kernel_rfl)
      rw [e12, g12] at d0
      have h0 := (hin (X := X) (k := 44) (by decide)).trans d0
      have c0 := (hb.cell (p := ⟨b, off + j * 2 + 1, none⟩) (lt_cell hZkw)).trans hZkw
      refine v_value (V := V 13) (v := .int .i64 kw) ?_ (by rw [e13])
      generalize (puts A X ds).eval = ρ at h0 ⊢
      go_simp
    · have d0 := hd 13 (by kernel_rfl)
      rw [e13, g13] at d0
      have h0 := (hin (X := X) (k := 45) (by decide)).trans d0
      have hf : (puts A X ds).eval (.func 51) = .func (.func 51) #[] #[] := rfl
      refine v_call (V := V 14) (f := 51) (vs := #[.int .i64 kw]) ?_ ?_
      · generalize (puts A X ds).eval = ρ at h0 hf ⊢
        go_simp
      · refine (rsg_any kw W hkw).mono ?_
        rintro r W' ⟨rfl, hb'⟩
        exact ⟨_, rfl, by rw [e14, hzkw], hb'⟩
    · have d0 := hd 7 (by kernel_rfl)
      rw [e7, g7] at d0
      have h0 := (hin (X := X) (k := 39) (by decide)).trans d0
      have d1 := hd 14 (by kernel_rfl)
      rw [e14, g14] at d1
      have h1 := (hin (X := X) (k := 46) (by decide)).trans d1
      have hs1 := hl1
      refine v_value (V := V 15) (v := .string (z0 ++ z1)) ?_ (by rw [e15])
      generalize (puts A X ds).eval = ρ at h0 h1 ⊢
      go_simp
    · have d0 := hd 0 (by kernel_rfl)
      rw [e0, g0] at d0
      have h0 := (hin (X := X) (k := 32) (by decide)).trans d0
      have d1 := hd 15 (by kernel_rfl)
      rw [e15, g15] at d1
      have h1 := (hin (X := X) (k := 47) (by decide)).trans d1
      have hs1 := hl2
      refine v_value (V := V 16) (v := .string (s0 ++ (z0 ++ z1))) ?_ (by rw [e16])
      generalize (puts A X ds).eval = ρ at h0 h1 ⊢
      go_simp
    · have d0 := hd 16 (by kernel_rfl)
      rw [e16, g16] at d0
      have h0 := (hin (X := X) (k := 48) (by decide)).trans d0
      refine v_value (V := V 17) (v := .string (s0 ++ (z0 ++ z1))) ?_ (by rw [e17])
      generalize (puts A X ds).eval = ρ at h0 ⊢
      go_simp
  · intro X W hb hall
    have r0 := hall 0 (by decide)
    rw [e0, g0] at r0
    have r1 := hall 1 (by decide)
    rw [e1, g1] at r1
    have r2 := hall 2 (by decide)
    rw [e2, g2] at r2
    have r3 := hall 3 (by decide)
    rw [e3, g3] at r3
    have r4 := hall 4 (by decide)
    rw [e4, g4] at r4
    have r5 := hall 5 (by decide)
    rw [e5, g5] at r5
    have r6 := hall 6 (by decide)
    rw [e6, g6] at r6
    have r7 := hall 7 (by decide)
    rw [e7, g7] at r7
    have r8 := hall 8 (by decide)
    rw [e8, g8] at r8
    have r9 := hall 9 (by decide)
    rw [e9, g9] at r9
    have r10 := hall 10 (by decide)
    rw [e10, g10] at r10
    have r11 := hall 11 (by decide)
    rw [e11, g11] at r11
    have r12 := hall 12 (by decide)
    rw [e12, g12] at r12
    have r13 := hall 13 (by decide)
    rw [e13, g13] at r13
    have r14 := hall 14 (by decide)
    rw [e14, g14] at r14
    have r15 := hall 15 (by decide)
    rw [e15, g15] at r15
    have r16 := hall 16 (by decide)
    rw [e16, g16] at r16
    have r17 := hall 17 (by decide)
    rw [e17, g17] at r17
    have := HK X W hb (by first | assumption | exact ⟨by assumption, by assumption⟩ | exact ⟨by assumption, by assumption, by assumption⟩ | simp_all)
    rw [hds] at this
    exact this
end Go.Proofs.YtnhijofnhflklaaGreat
end
