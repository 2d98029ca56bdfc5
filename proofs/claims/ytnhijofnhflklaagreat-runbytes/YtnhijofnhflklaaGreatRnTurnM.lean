import Derived.Test.YtnhijofnhflklaaGreatRnTurn2M
import Derived.Test.YtnhijofnhflklaaGreatRnFun1M
import Derived.Deep.Cut
import Derived.Deep.DeepCutAuto
import Derived.Laws.StructEq
import Derived.Deep.QuietTactic
import Derived.Test.YtnhijofnhflklaaGreatNmAddM
import Derived.Test.YtnhijofnhflklaaGreatRnSymM
import Derived.Test.YtnhijofnhflklaaGreatAgMergeM
import Derived.Test.YtnhijofnhflklaaGreatKnAwakeM
section
/- lay and empty of a part. -/
namespace Go.Proofs.YtnhijofnhflklaaGreat
open Go.RowKit
section
variable {w : World} {S : Nat → Prop} {p n : Nat} {s : St} {sv : Value} {M : List (Vx × Value)} {hm bx : Nat} {SB : Nat → Prop}
set_option maxRecDepth 100000 in
theorem lay_any (h : PA w S p n s sv M hm bx SB) (hn : n < maxLen) {id : Int} (hid : I64 id) (c : Bool) :
    Calls Tryz.prog 139 #[.pointer (some ⟨p, 0, none⟩), .int .i64 id, .bool c] w fun r w' => r = .returned (.tuple #[]) ∧ PA w' S p (n + 1) ⟨s.G, fun y => if y = id then c else s.H y, s.B⟩ sv M hm bx SB ∧ Fr w w' (fun k => k = hm) := by
  obtain ⟨c0, c1, c2⟩ := h.cells
  obtain ⟨w2, hrun, hB, hF⟩ := h.hal.put hn hid c
  have HP : Hid _ := h.lay hB hF
  have HF : Hid _ := hF
  have hnil := map_nil Tryz.underlying109 w (some hm)
  clear h hB hF
  go_enter Tryz.func139, Tryz.ntmps139
  go_wp2
  go_end0
  exact ⟨rfl, HP.out, HF.out⟩
/-- The box is a new one. -/
theorem PA.emptied (h : PA w S p n s sv M hm bx SB) : PA ((w.alloc (.cells #[.map none] 210)).setCell ⟨p, 2, none⟩ (.pointer (some ⟨w.heap.size, 0, none⟩))) (fun k => S k ∨ w.heap.size ≤ k) p n ⟨s.G, s.H, []⟩ sv M hm w.heap.size (fun k => k = w.heap.size) := by
  have hp := h.plt
  have hb0 : Below w.heap.size w (w.alloc (.cells #[.map none] 210)) := one_new _ _
  have h1 := h.new hb0
  have fs : Fr (w.alloc (.cells #[.map none] 210)) ((w.alloc (.cells #[.map none] 210)).setCell ⟨p, 2, none⟩ (.pointer (some ⟨w.heap.size, 0, none⟩))) (fun k => k = p) := Fr.setCell (S := fun k => k = p) _ ⟨p, 2, none⟩ _ rfl
  have hgb : ∀ k, GB sv M k → k < w.heap.size := fun k hk => (h.gw.gb hk).2
  refine { blk := ?_, gw := h1.gw.keepS fs (fun k hk => (h.gp k hk).1), gs := h.gs, hal := h1.hal.same (fs.block hm h1.hal.lt (fun e => h.ph e.symm)), box := ?_, lt := ?_, inP := .inl h.inP, inH := .inl h.inH, inB := ?_, inG := fun k hk => .inl (h.inG k hk), ph := h.ph, pb := ?_, hb := ?_, gp := ?_ }
  · exact set_heap h1.blk 2 _
  · exact ((BX.made w (S := fun k => k = w.heap.size) rfl).kept fs (fun k hk e => by omega)).more (Nat.zero_le _)
  · intro k hk
    have := fs.size
    rw [World.size_alloc] at this
    omega
  · intro k hk; exact .inr (by omega)
  · intro e; omega
  · intro e; have := h.hal.lt; omega
  · intro k hk
    have := hgb k hk
    exact ⟨(h.gp k hk).1, (h.gp k hk).2.1, by omega⟩
set_option maxRecDepth 100000 in
theorem empty_any (h : PA w S p n s sv M hm bx SB) :
    Calls Tryz.prog 86 #[.pointer (some ⟨p, 0, none⟩)] w fun r w' => r = .returned (.tuple #[]) ∧ PA w' (fun k => S k ∨ w.heap.size ≤ k) p n ⟨s.G, s.H, []⟩ sv M hm w.heap.size (fun k => k = w.heap.size) ∧ Fr w w' (fun k => k = p) := by
  have hp := h.plt
  obtain ⟨W0, hW0⟩ : ∃ W0, w.alloc (.cells #[.map none] 210) = W0 := ⟨_, rfl⟩
  have HP : Hid _ := h.emptied
  have HF : Hid (Fr w ((w.alloc (.cells #[.map none] 210)).setCell ⟨p, 2, none⟩ (.pointer (some ⟨w.heap.size, 0, none⟩))) (fun k => k = p)) := (Fr.alloc w _ _).trans (Fr.setCell (S := fun k => k = p) _ ⟨p, 2, none⟩ _ rfl) (fun _ _ h => h)
  have h1 := h.new (one_new w (.cells #[.map none] 210))
  rw [hW0] at HP HF h1
  obtain ⟨c0, c1, c2⟩ := h1.cells
  have hfz : W0.frozen? ⟨p, 2, none⟩ = false := by
    have := h1.blk
    simp [World.frozen?, this]
  have HW0 : Hid _ := hW0
  clear h h1 hW0
  go_enter Tryz.func86, Tryz.ntmps86
  go_wp2_with (go_at_call 73; refine (new_box _).mono ?_; rintro r w1 ⟨rfl, hw1⟩; rw [HW0.out] at hw1; subst hw1)
  go_end0
  exact ⟨rfl, HP.out, HF.out⟩
end
end Go.Proofs.YtnhijofnhflklaaGreat
end

section
/- ref, join and Combine, and the document's Combine. -/
namespace Go.Proofs.YtnhijofnhflklaaGreat
open Go.RowKit
theorem jnE_false {k a b : Int} (h : jnE k a b = false) (ha : I64 a) (hb : I64 b) : I64 (jn k a b) := by
  unfold jnE at h
  unfold jn
  unfold I64 at *
  simp only [decide_eq_false_iff_not] at h
  split
  · split <;> omega
  · split
    · split <;> omega
    · omega
def jV (k a b : Int) : Int := if jnE k a b then 0 else jn k a b
def jEr (k a b : Int) : Int := if jnE k a b then 20 else 0
set_option maxHeartbeats 400000 in
theorem join_any {k a b : Int} {w : World} (ha : I64 a) (hb : I64 b) : Calls Tryz.prog 168 #[.int .i64 k, .int .i64 a, .int .i64 b] w fun e w' => e = .returned (.tuple #[.int .i64 (jV k a b), .int .i64 (jEr k a b)]) ∧ w' = w := by
  by_cases h2 : k = 2
  · subst h2
    have e1 : jnE 2 a b = false := by simp [jnE]
    have e3 : jEr 2 a b = 0 := by simp [jEr, e1]
    have e2 : jV 2 a b = min a b := by
      simp only [jV, jn, e1, if_true, Bool.false_eq_true, if_false]
      split <;> omega
    rw [e2, e3]
    go_enter Tryz.func168, Tryz.ntmps168
    go_wp2
    go_ret2
    exact ⟨rfl, rfl⟩
  · by_cases h3 : k = 3
    · subst h3
      have e1 : jnE 3 a b = false := by simp [jnE]
      have e3 : jEr 3 a b = 0 := by simp [jEr, e1]
      have e2 : jV 3 a b = max a b := by
        simp only [jV, jn, e1, if_true, Bool.false_eq_true, if_false, show ((3 : Int) = 2) = False by simp]
        split <;> omega
      rw [e2, e3]
      go_enter Tryz.func168, Tryz.ntmps168
      go_wp2
      go_ret2
      exact ⟨rfl, rfl⟩
    · have b2 : (k == 2) = false := by simpa using h2
      have b3 : (k == 3) = false := by simpa using h3
      have e2 : jV k a b = hv (a + b) := by
        simp only [jV, jnE, jn, hv, h2, h3, ne_eq, not_false_eq_true, true_and, if_false]
        by_cases h : -9223372036854775808 ≤ a + b ∧ a + b ≤ 9223372036854775807 <;> simp [h]
      have e3 : jEr k a b = he (a + b) := by
        simp only [jEr, jnE, he, h2, h3, ne_eq, not_false_eq_true, true_and]
        by_cases h : -9223372036854775808 ≤ a + b ∧ a + b ≤ 9223372036854775807 <;> simp [h]
      rw [e2, e3]
      have HA : Hid _ := ha
      have HB : Hid _ := hb
      clear e2 e3 ha hb
      go_enter Tryz.func168, Tryz.ntmps168
      go_wp2_with (go_at_call 198; refine (add_any a b _ HA.out.1 HA.out.2 HB.out.1 HB.out.2).mono ?_; rintro e w1 ⟨rfl, rfl⟩; simp only [ans])
      go_ret2
      exact ⟨rfl, rfl⟩
/-- What a combiner makes: none, where there is no room. -/
def combO (k : Int) : List Msg → Option (List Msg)
  | [] => some []
  | m :: l => if k = 0 then some (m :: l) else (foldM k m.v l).map fun v => [⟨m.f, m.t, m.a, v⟩]
/-- What Combine returns. -/
def CombR (w' : World) (r : Ending) : Option (List Msg) → Prop
  | none => r = .returned (.tuple #[.slice none 0 0, .int .i64 20])
  | some R => ∃ ao c, r = .returned (.tuple #[.slice ao R.length c, .int .i64 0]) ∧ MsAt w' (fun _ => True) ao R
/-- .. and in blocks that are new. -/
def CombN (B : Nat) (w' : World) (r : Ending) : Option (List Msg) → Prop
  | none => r = .returned (.tuple #[.slice none 0 0, .int .i64 20])
  | some R => ∃ ao c, r = .returned (.tuple #[.slice ao R.length c, .int .i64 0]) ∧ MsAt w' (fun k => B ≤ k) ao R
def CombB (B : Nat) (w' : World) (r : Ending) : Option (List Msg) → Prop
  | none => r = .returned (.tuple #[.slice none 0 0, .int .i64 20])
  | some R => ∃ a c, r = .returned (.tuple #[.slice (some a) R.length c, .int .i64 0]) ∧ MsAt w' (fun k => B ≤ k) (some a) R
theorem CombB.toN {B : Nat} {w' : World} {r : Ending} : ∀ {o : Option (List Msg)}, CombB B w' r o → CombN B w' r o
  | none, h => h
  | some R, h => by
    obtain ⟨a, c, h1, h2⟩ := h
    exact ⟨some a, c, h1, h2⟩
theorem CombN.toR {B : Nat} {w' : World} {r : Ending} : ∀ {o : Option (List Msg)}, CombN B w' r o → CombR w' r o
  | none, h => h
  | some R, h => by
    obtain ⟨a, c, h1, h2⟩ := h
    exact ⟨a, c, h1, h2.mono (fun _ _ _ => trivial)⟩
theorem foldM_step {k x y : Int} {l : List Msg} {j : Nat} (hj : j < l.length) (h : foldM k x (l.take j) = some y) : (jnE k y l[j].v = false → foldM k x (l.take (j + 1)) = some (jn k y l[j].v)) ∧ (jnE k y l[j].v = true → foldM k x l = none) := by
  have e1 : foldM k x (l.take (j + 1)) = if jnE k y l[j].v then none else some (jn k y l[j].v) := by
    rw [List.take_succ_eq_append_getElem hj, foldM_app, h]
    simp only [Option.bind_some, foldM]
  refine ⟨fun hf => by rw [e1, hf]; rfl, fun hf => ?_⟩
  have e2 : l = l.take (j + 1) ++ l.drop (j + 1) := (List.take_append_drop _ _).symm
  rw [e2, foldM_app, e1, hf]
  rfl
theorem one_atB {W : World} {g B : Nat} {t : TypeId} {m : Msg} (hB : B ≤ g) (h : W.heap[g]? = some (.cells #[.int .i64 m.f, .int .i64 m.t, .int .i64 m.a, .int .i64 m.v] t (0, 0))) : MsAt W (fun k => B ≤ k) (some ⟨g, 0, none⟩) [m] := by
  intro _
  refine ⟨g, 0, rfl, hB, fun j hj => ?_⟩
  have : j = 0 := by simp at hj; omega
  subst this
  simpa using m_cells h
theorem MsAt.all {w : World} {P : Nat → Prop} {ao : Option Addr} {L : List Msg} (h : MsAt w P ao L) : MsAt w (fun _ => True) ao L := h.mono (fun _ _ _ => trivial)
theorem set4_3 {w : World} {b : Nat} {t : TypeId} {u0 u1 u2 u3 : Value} (h : w.heap[b]? = some (.cells #[u0, u1, u2, u3] t (0, 0))) (u : Value) : (w.setCell ⟨b, 3, none⟩ u).heap[b]? = some (.cells #[u0, u1, u2, u] t (0, 0)) := by
  have hlt := m_lt h
  have h' : w.heap[b] = .cells #[u0, u1, u2, u3] t (0, 0) := by simpa [Array.getElem?_eq_getElem hlt] using h
  show (w.heap.modify b _)[b]? = _
  rw [Array.getElem?_eq_getElem (by simpa using hlt), Array.getElem_modify_self, h']
  rfl
theorem m_froz {W : World} {b o : Nat} {t : TypeId} {cs : Array Value} (h : W.heap[b]? = some (.cells cs t (0, 0))) : W.frozen? ⟨b, o, none⟩ = false := by simp [World.frozen?, h]
set_option maxRecDepth 100000 in
set_option maxHeartbeats 1000000 in
theorem comb_one {w : World} {P : Nat → Prop} {b off cap : Nat} {k : Int} (hk : k ≠ 0) (m : Msg) (h : MsAt w P (some ⟨b, off, none⟩) [m]) :
    Calls Tryz.prog 135 #[.int .i64 k, .slice (some ⟨b, off, none⟩) 1 cap] w fun r w' => CombB w.heap.size w' r (combO k [m]) ∧ Below w.heap.size w w' := by
  have bk : (k == 0) = false := by simpa using hk
  obtain ⟨b', off', e, hP, hc⟩ := h (by simp)
  cases e
  obtain ⟨e0, e1, e2, e3⟩ := hc 0 (by simp)
  simp only [Nat.zero_mul, Nat.add_zero, List.getElem_cons_zero] at e0 e1 e2 e3
  have e : combO k [m] = some [m] := by simp [combO, hk, foldM]
  rw [e]
  clear hc h e
  go_enter Tryz.func135, Tryz.ntmps135
  go_wp2
  all_goals
    refine wp_loop_rounds 1 ?_
    rw [rounds_succ]
    go_wp2
    go_ret2
    refine ⟨⟨_, _, rfl, ?_⟩, ((Below.refl _ w).alloc (Nat.le_refl _) _).alloc (by simp) _⟩
    exact one_atB (by simp) (by have := heap_alloc_new (w.alloc (.cells #[.int .i64 m.f, .int .i64 m.t, .int .i64 m.a, .int .i64 m.v] 93)) (.cells #[.int .i64 m.f, .int .i64 m.t, .int .i64 m.a, .int .i64 m.v] 93); rw [World.size_alloc] at this; exact this)
set_option maxRecDepth 100000 in
set_option maxHeartbeats 1000000 in
theorem comb_fold {w : World} {P : Nat → Prop} {b off cap : Nat} {k : Int} (hk : k ≠ 0) (m : Msg) (l : List Msg) (h : MsAt w P (some ⟨b, off, none⟩) (m :: l)) (hok : ∀ x ∈ m :: l, x.ok) (hl : (m :: l).length ≤ 8796093022208) (hne : 0 < l.length) (hcap : (m :: l).length ≤ cap) :
    Calls Tryz.prog 135 #[.int .i64 k, .slice (some ⟨b, off, none⟩) (m :: l).length cap] w fun r w' => CombB w.heap.size w' r (combO k (m :: l)) ∧ Below w.heap.size w w' := by
  have bk : (k == 0) = false := by simpa using hk
  obtain ⟨b', off', e, hP, hc⟩ := h (by simp)
  cases e
  obtain ⟨e0, e1, e2, e3⟩ := hc 0 (by simp)
  simp only [Nat.zero_mul, Nat.add_zero, List.getElem_cons_zero] at e0 e1 e2 e3
  have okm := hok m (by simp)
  have HC : Hid (∀ j (h : j < l.length), w.cell? ⟨b, off + (j + 1) * 4, none⟩ = some (.int .i64 l[j].f) ∧ w.cell? ⟨b, off + (j + 1) * 4 + 1, none⟩ = some (.int .i64 l[j].t) ∧ w.cell? ⟨b, off + (j + 1) * 4 + 2, none⟩ = some (.int .i64 l[j].a) ∧ w.cell? ⟨b, off + (j + 1) * 4 + 3, none⟩ = some (.int .i64 l[j].v)) := fun j hj => hc (j + 1) (by simpa using hj)
  have HO : Hid (∀ x ∈ l, x.ok) := fun x hx => hok x (by simp [hx])
  have hlen : (m :: l).length = l.length + 1 := rfl
  have hblt := lt_cell e0
  rw [hlen] at hl hcap ⊢
  have hc1 : ¬ cap = 1 := by omega
  clear hc h hok hlen
  go_enter Tryz.func135, Tryz.ntmps135
  go_upto_region 5 with (fail)
  have h1 := heap_alloc_new w (.cells #[.int .i64 m.f, .int .i64 m.t, .int .i64 m.a, .int .i64 m.v] 93)
  have h2 : Below w.heap.size w (w.alloc (.cells #[.int .i64 m.f, .int .i64 m.t, .int .i64 m.a, .int .i64 m.v] 93)) := (Below.refl _ w).alloc (Nat.le_refl _) _
  go_loopw [4, 5, 8, 9, 10, 26, 41] (fun _ _ _ _ _ i _ wr => ∃ (j : Nat) (x : Int), j ≤ l.length ∧ i = .int .i64 j ∧ Hid (foldM k m.v (l.take j) = some x) ∧ I64 x ∧ wr.heap[w.heap.size]? = some (.cells #[.int .i64 m.f, .int .i64 m.t, .int .i64 m.a, .int .i64 x] 93 (0, 0)) ∧ Below w.heap.size w wr) (fun _ _ _ _ _ i _ _ => l.length - (intOf i).toNat)
  case atStart => exact ⟨0, m.v, Nat.zero_le _, rfl, rfl, okm.v, h1, h2⟩
  case round =>
    obtain ⟨j, x, hj, rfl, hf, hx, hq, hb⟩ := hrel
    clear h1 h2
    by_cases hlt : j < l.length
    · obtain ⟨f0, f1, f2, f3⟩ := HC.out j hlt
      have d0 := (hb.cell (p := ⟨b, off + (j + 1) * 4, none⟩) hblt).trans f0
      have d1 := (hb.cell (p := ⟨b, off + (j + 1) * 4 + 1, none⟩) hblt).trans f1
      have d2 := (hb.cell (p := ⟨b, off + (j + 1) * 4 + 2, none⟩) hblt).trans f2
      have d3 := (hb.cell (p := ⟨b, off + (j + 1) * 4 + 3, none⟩) hblt).trans f3
      rw [show off + (j + 1) * 4 = off + 4 + j * 4 by omega] at d0 d1 d2 d3
      have oky := HO.out _ (List.getElem_mem hlt)
      have HS : Hid _ := foldM_step hlt hf.out
      generalize l[j] = y at d0 d1 d2 d3 oky HS
      have HQ : Hid _ := hq
      have HB : Hid _ := hb
      have hqlt := m_lt hq
      have hq1 := fun o => (Below.heap_alloc wr o w.heap.size hqlt).trans hq
      obtain ⟨_, _, _, k3⟩ := m_cells (hq1 (.cells #[.int .i64 y.f, .int .i64 y.t, .int .i64 y.a, .int .i64 y.v] 93))
      have k4 := m_froz (o := 3) (hq1 (.cells #[.int .i64 y.f, .int .i64 y.t, .int .i64 y.a, .int .i64 y.v] 93))
      clear hq hb hq1 f0 f1 f2 f3 e0 e1 e2 e3 hf
      cases hE : jnE k x y.v
      · have HN : Hid (foldM k m.v (l.take (j + 1)) = some (jn k x y.v)) := HS.out.1 hE
        have hI := jnE_false hE hx oky.v
        have eV : jV k x y.v = jn k x y.v := by simp [jV, hE]
        have eE : jEr k x y.v = 0 := by simp [jEr, hE]
        generalize jn k x y.v = z at HN hI eV
        have HJ : Hid (Calls Tryz.prog 168 #[.int .i64 k, .int .i64 x, .int .i64 y.v] (wr.alloc (.cells #[.int .i64 y.f, .int .i64 y.t, .int .i64 y.a, .int .i64 y.v] 93)) fun e w' => e = .returned (.tuple #[.int .i64 z, .int .i64 0]) ∧ w' = (wr.alloc (.cells #[.int .i64 y.f, .int .i64 y.t, .int .i64 y.a, .int .i64 y.v] 93))) := by
          have := join_any (k := k) (w := (wr.alloc (.cells #[.int .i64 y.f, .int .i64 y.t, .int .i64 y.a, .int .i64 y.v] 93))) hx oky.v
          rw [eV, eE] at this
          exact this
        clear eV eE hE HS hx
        go_wp2_with (go_at_call 168; refine HJ.out.mono ?_; rintro e w1 ⟨rfl, rfl⟩)
        go_roundw
        case rel =>
          repeat apply Exists.intro
          refine ⟨⟨j + 1, z, by omega, by go_num, HN.out, hI, (Below.heap_alloc (wr.setCell ⟨w.heap.size, 3, none⟩ (.int .i64 z)) _ w.heap.size (m_lt (set4_3 HQ.out _))).trans (set4_3 HQ.out _), ?_⟩, rfl⟩
          have hz := HB.out.trans ((Fr.setCell (S := fun k => k = w.heap.size) wr ⟨w.heap.size, 3, none⟩ (.int .i64 z) rfl).below HB.out.size (fun k hk => by omega))
          exact hz.alloc hz.size _
        case measure => simp [intOf]; omega
      · have HN : Hid (combO k (m :: l) = none) := by
          show combO k (m :: l) = none
          simp [combO, hk, HS.out.2 hE]
        have eV : jV k x y.v = 0 := by simp [jV, hE]
        have eE : jEr k x y.v = 20 := by simp [jEr, hE]
        have HJ : Hid (Calls Tryz.prog 168 #[.int .i64 k, .int .i64 x, .int .i64 y.v] (wr.alloc (.cells #[.int .i64 y.f, .int .i64 y.t, .int .i64 y.a, .int .i64 y.v] 93)) fun e w' => e = .returned (.tuple #[.int .i64 0, .int .i64 20]) ∧ w' = (wr.alloc (.cells #[.int .i64 y.f, .int .i64 y.t, .int .i64 y.a, .int .i64 y.v] 93))) := by
          have := join_any (k := k) (w := (wr.alloc (.cells #[.int .i64 y.f, .int .i64 y.t, .int .i64 y.a, .int .i64 y.v] 93))) hx oky.v
          rw [eV, eE] at this
          exact this
        clear eV eE hE HS hx
        go_wp2_with (go_at_call 168; refine HJ.out.mono ?_; rintro e w1 ⟨rfl, rfl⟩)
        go_ret2
        exact ⟨by rw [HN.out]; rfl, HB.out.alloc HB.out.size _⟩
    · obtain rfl : j = l.length := by omega
      rw [List.take_length] at hf
      have HN : Hid (combO k (m :: l) = some [⟨m.f, m.t, m.a, x⟩]) := by
        show combO k (m :: l) = _
        simp [combO, hk, hf.out]
      obtain ⟨k0, k1, k2, k3⟩ := m_cells hq
      have HB : Hid _ := hb
      clear hf hb hq
      go_wp2
      go_ret2
      rw [HN.out]
      exact ⟨⟨_, _, rfl, one_atB HB.out.size (heap_alloc_new wr _)⟩, HB.out.alloc HB.out.size _⟩
set_option maxRecDepth 100000 in
theorem comb_same {w : World} {P : Nat → Prop} {b off cap : Nat} (k : Int) (L : List Msg) (h : MsAt w P (some ⟨b, off, none⟩) L) (hl : L.length * 32 ≤ 140737488355328) (hk : k = 0 ∨ L = []) :
    Calls Tryz.prog 135 #[.int .i64 k, .slice (some ⟨b, off, none⟩) L.length cap] w fun r w' => CombB w.heap.size w' r (some L) ∧ Below w.heap.size w w' := by
  have HC : Hid _ := h
  have hk' : ((k == 0) = true) ∨ L = [] := by
    rcases hk with rfl | h
    · exact Or.inl rfl
    · exact Or.inr h
  clear h hk
  rcases hk' with hb | rfl
  · go_enter Tryz.func135, Tryz.ntmps135
    go_wp2_with (go_at_call 167; refine (cloneM_any _ cap HC.out hl).mono ?_; rintro e w1 ⟨g, c, rfl, hg, ho, hb⟩; have HO : Hid _ := ho; have HB : Hid _ := hb; have HG : Hid (w.heap.size ≤ g) := hg; clear ho hb hg)
    go_ret2
    exact ⟨⟨_, _, rfl, (Mo.at_ HO.out).mono (fun k _ e => by cases e; exact HG.out)⟩, HB.out⟩
  · cases hk0 : (k == 0)
    · go_enter Tryz.func135, Tryz.ntmps135
      go_wp2_with (go_at_call 167; refine (cloneM_any _ cap HC.out hl).mono ?_; rintro e w1 ⟨g, c, rfl, hg, ho, hb⟩; have HO : Hid _ := ho; have HB : Hid _ := hb; have HG : Hid (w.heap.size ≤ g) := hg; clear ho hb hg)
      go_ret2
      exact ⟨⟨_, _, rfl, (Mo.at_ HO.out).mono (fun k _ e => by cases e; exact HG.out)⟩, HB.out⟩
    · go_enter Tryz.func135, Tryz.ntmps135
      go_wp2_with (go_at_call 167; refine (cloneM_any _ cap HC.out hl).mono ?_; rintro e w1 ⟨g, c, rfl, hg, ho, hb⟩; have HO : Hid _ := ho; have HB : Hid _ := hb; have HG : Hid (w.heap.size ≤ g) := hg; clear ho hb hg)
      go_ret2
      exact ⟨⟨_, _, rfl, (Mo.at_ HO.out).mono (fun k _ e => by cases e; exact HG.out)⟩, HB.out⟩
set_option maxRecDepth 100000 in
theorem comb_nil {w : World} (k : Int) : Calls Tryz.prog 135 #[.int .i64 k, .slice none 0 0] w fun r w' => CombN w.heap.size w' r (some []) ∧ Below w.heap.size w w' := by
  cases hk0 : (k == 0)
  · go_enter Tryz.func135, Tryz.ntmps135
    go_wp2_with (go_at_call 167; refine (cloneM_nil _).mono ?_; rintro e w1 ⟨rfl, rfl⟩)
    go_ret2
    exact ⟨⟨_, _, rfl, fun h => absurd h (by simp)⟩, Below.refl _ _⟩
  · go_enter Tryz.func135, Tryz.ntmps135
    go_wp2_with (go_at_call 167; refine (cloneM_nil _).mono ?_; rintro e w1 ⟨rfl, rfl⟩)
    go_ret2
    exact ⟨⟨_, _, rfl, fun h => absurd h (by simp)⟩, Below.refl _ _⟩
set_option maxRecDepth 100000 in
theorem clone_empty {w : World} (a : Addr) (c : Nat) : Calls Tryz.prog 167 #[.slice (some a) 0 c] w fun e w' => ∃ g cap, e = .returned (.slice (some ⟨g, 0, none⟩) 0 cap) ∧ Below w.heap.size w w' := by
  obtain ⟨i0, hi, hz0, hz1, hz2⟩ := info_parts infoMsg
  have q22 : ∀ (w : World) (a : Option Addr) (n c n' c' : Nat), (binOp .eql 87 (.slice a n c) (.slice none n' c')).run Tryz.prog w = .ok (.bool a.isNone) w := fun w a n c n' c' => Lib.run_eql_slice_nil w _ _ a n c n' c' Tryz.underlying87
  have u22 : ∀ w, Sem.run Tryz.prog (underlying 87) w = .ok (TypeDesc.slice 93) w := run_underlying Tryz.underlying87
  go_enter Tryz.func167, Tryz.ntmps167
  go_wp2_with (at_builtin; refine wpList_append_own_at _ rfl _ _ 87 rfl w.heap.size 93 i0 (.agg #[.int .i64 0, .int .i64 0, .int .i64 0, .int .i64 0]) 4 32 Tryz.underlying87 hi hz0 hz1 hz2 rfl (by decide) _ _ _ rfl (World.ownsRow_made w #[] 0 (Nat.le_refl _) (Nat.zero_le _) (by simp)) a 0 c [] rfl rfl (fun j u h => by simp at h) (fun u h => by simp at h) (by decide) (by decide) (by simp) ?_)
  intro v' w1 hown hgrow hnil _
  have hb : Below w.heap.size w w1 := ((Below.refl _ w).alloc (Nat.le_refl _) _).grown hgrow (by simp) (by intro k hk; simp [Value.ownBlock] at hk; omega)
  rcases hown.2 with ⟨h1, _⟩ | ⟨g, cap, cur, rfl, _⟩
  · exact absurd h1 hnil
  · have HB : Hid _ := hb
    clear hown hgrow hnil hb
    go_wp2
    go_ret
    exact ⟨g, cap, rfl, HB.out⟩
set_option maxRecDepth 100000 in
theorem comb_empty {w : World} (k : Int) (a : Addr) (c : Nat) : Calls Tryz.prog 135 #[.int .i64 k, .slice (some a) 0 c] w fun r w' => CombB w.heap.size w' r (some []) ∧ Below w.heap.size w w' := by
  cases hk0 : (k == 0)
  · go_enter Tryz.func135, Tryz.ntmps135
    go_wp2_with (go_at_call 167; refine (clone_empty a c).mono ?_; rintro e w1 ⟨g, cap, rfl, hb⟩)
    go_ret2
    exact ⟨⟨_, _, rfl, fun h => absurd h (by simp)⟩, hb⟩
  · go_enter Tryz.func135, Tryz.ntmps135
    go_wp2_with (go_at_call 167; refine (clone_empty a c).mono ?_; rintro e w1 ⟨g, cap, rfl, hb⟩)
    go_ret2
    exact ⟨⟨_, _, rfl, fun h => absurd h (by simp)⟩, hb⟩
theorem combine_some {w : World} {P : Nat → Prop} {a : Addr} (k : Int) (L : List Msg) (cap : Nat) (h : MsAt w P (some a) L) (hok : ∀ m ∈ L, m.ok) (hl : L.length * 32 ≤ 140737488355328) (hcap : L.length ≤ cap) :
    Calls Tryz.prog 135 #[.int .i64 k, .slice (some a) L.length cap] w fun r w' => CombB w.heap.size w' r (combO k L) ∧ Below w.heap.size w w' := by
  match L, h, hok, hl, hcap with
  | [], h, _, hl, _ => exact comb_empty k a cap
  | m :: l, h, hok, hl, hcap =>
    obtain ⟨b, off, e, _⟩ := h (by simp)
    cases e
    by_cases hk : k = 0
    · have e : combO k (m :: l) = some (m :: l) := by simp [combO, hk]
      rw [e]
      exact comb_same k (m :: l) h hl (Or.inl hk)
    · match l, h, hok, hl, hcap with
      | [], h, _, _, _ => exact comb_one hk m h
      | m' :: l, h, hok, hl, hcap => exact comb_fold hk m (m' :: l) h hok (by omega) (by simp) hcap
theorem combine_new {w : World} {P : Nat → Prop} {ao : Option Addr} (k : Int) (L : List Msg) (cap : Nat) (h : MsAt w P ao L) (hok : ∀ m ∈ L, m.ok) (hl : L.length * 32 ≤ 140737488355328) (hcap : L.length ≤ cap) (hn : ao = none → cap = 0) :
    Calls Tryz.prog 135 #[.int .i64 k, .slice ao L.length cap] w fun r w' => CombN w.heap.size w' r (combO k L) ∧ Below w.heap.size w w' := by
  cases ao with
  | none =>
    have hc0 := hn rfl
    subst hc0
    have e : L = [] := List.length_eq_zero_iff.1 (by omega)
    subst e
    exact comb_nil k
  | some a => exact (combine_some k L cap h hok hl hcap).mono fun _ _ h => ⟨h.1.toN, h.2⟩
theorem combine_any {w : World} {P : Nat → Prop} {ao : Option Addr} (k : Int) (L : List Msg) (cap : Nat) (h : MsAt w P ao L) (hok : ∀ m ∈ L, m.ok) (hl : L.length * 32 ≤ 140737488355328) (hcap : L.length ≤ cap) (hn : ao = none → cap = 0) :
    Calls Tryz.prog 135 #[.int .i64 k, .slice ao L.length cap] w fun r w' => CombR w' r (combO k L) ∧ Below w.heap.size w w' :=
  (combine_new k L cap h hok hl hcap hn).mono fun _ _ h => ⟨h.1.toR, h.2⟩
end Go.Proofs.YtnhijofnhflklaaGreat
end

section
/- What turn does: a vertex's messages are combined, the program is asked, the value and whether it halted are laid. -/
namespace Go.Proofs.YtnhijofnhflklaaGreat
open Go.RowKit
/-- What a vertex does in a superstep, on plain data. -/
structure POut where
  v : Int
  halt : Bool
  sent : List Msg
  asked : List Mu
  agg : Nat → Option Int
/-- A program: of the superstep's number, the vertex, its messages, the aggregate ahead, how many vertices there are; none: an error. -/
abbrev PStep := Int → Vx → List Msg → (Nat → Option Int) → Int → Option POut
/-- What Step tells, in memory. -/
def StepR (W w' : World) (r : Ending) : Option POut → Prop
  | none => ∃ e, e ≠ 0 ∧ r = .returned (.agg #[.int .i64 0, .bool false, .slice none 0 0, .slice none 0 0, .bool false, .bool false, .bool false, .bool false, .bool false, .int .i64 0, .int .i64 0, .int .i64 0, .int .i64 0, .int .i64 0, .int .i64 e])
  | some o => ∃ so sc ao ac, r = .returned (.agg #[.int .i64 o.v, .bool o.halt, .slice so o.sent.length sc, .slice ao o.asked.length ac, .bool (oh o.agg 0), .bool (oh o.agg 1), .bool (oh o.agg 2), .bool (oh o.agg 3), .bool (oh o.agg 4), .int .i64 (ov o.agg 0), .int .i64 (ov o.agg 1), .int .i64 (ov o.agg 2), .int .i64 (ov o.agg 3), .int .i64 (ov o.agg 4), .int .i64 0]) ∧ KM w' W.heap.size (.slice so o.sent.length sc) o.sent ∧ KU w' W.heap.size (.slice ao o.asked.length ac) o.asked
/-- The program's Step does what f says, of this vertex and these messages. -/
def StepC (pr : Value) (f : PStep) (ps : List Int) (step : Int) (bef : Nat → Option Int) (mny : Int) (v : Vx) (l : List Msg) : Prop :=
  ∀ (W : World) (eo : Option Addr) (ec : Nat) (ha : Bool) (mo : Option Addr) (mc : Nat) (po : Option Addr) (pn pc : Nat), pn = ps.length → EdAt W (fun _ => True) eo v.es → MsAt W (fun _ => True) mo l → IsAt W po ps →
    Calls Tryz.prog 138 #[pr, .agg #[.int .i64 step, .int .i64 v.id, .int .i64 v.val, .slice eo v.es.length ec, .bool ha, .slice mo l.length mc, .bool (oh bef 0), .bool (oh bef 1), .bool (oh bef 2), .bool (oh bef 3), .bool (oh bef 4), .int .i64 (ov bef 0), .int .i64 (ov bef 1), .int .i64 (ov bef 2), .int .i64 (ov bef 3), .int .i64 (ov bef 4), .int .i64 mny, .slice po pn pc]] W fun r w' => StepR W w' r (f step v l bef mny) ∧ Below W.heap.size W w'
/-- A vertex's turn, on plain data. -/
def turnP (f : PStep) (k step : Int) (bef : Nat → Option Int) (mny : Int) (B : List Msg) (v : Vx) : Option POut := (combO k (sortM (toV B v.id))).bind fun l => f step v l bef mny
/-- What is left behind a turn. -/
def TurnA (w w' : World) (S : Nat → Prop) (p n : Nat) (s : St) (sv : Value) (M : List (Vx × Value)) (hm bx : Nat) (SB : Nat → Prop) (i : Nat) (v : Vx) : Option POut → Prop
  | none => PA w' S p n s sv M hm bx SB ∧ Below w.heap.size w w'
  | some o => ∃ M', PA w' S p (n + 1) ⟨s.G.set i ⟨v.id, o.v, v.es⟩, fun y => if y = v.id then o.halt else s.H y, s.B⟩ sv M' hm bx SB ∧ Fr w w' S
section
variable {w : World} {S : Nat → Prop} {p n : Nat} {s : St} {sv : Value} {M : List (Vx × Value)} {hm bx : Nat} {SB : Nat → Prop}
theorem for_msgs (h : PA w S p n s sv M hm bx SB) (hB : s.B.length * 32 ≤ 140737488355328) {id : Int} (hid : I64 id) {W : World} (hb : Below w.heap.size w W) :
    Calls Tryz.prog 137 #[.pointer (some ⟨bx, 0, none⟩), .int .i64 id] W fun r w' => ∃ mo mc, r = .returned (.slice mo (sortM (toV s.B id)).length mc) ∧ (MsAt w' (fun _ => True) mo (sortM (toV s.B id)) ∧ (sortM (toV s.B id)).length ≤ mc ∧ (mo = none → mc = 0)) ∧ Below W.heap.size W w' := by
  refine (for_any (h.new hb).box hid hB).mono ?_
  rintro r w' ⟨v, rfl, hm, _, hb'⟩
  obtain ⟨mo, mc, rfl⟩ := hm.shape
  refine ⟨mo, mc, rfl, ⟨(hm.at_).mono (fun _ _ _ => trivial), ?_, ?_⟩, hb'⟩
  · rcases hm.2 with ⟨h1, h2⟩ | ⟨g, cap, cur, h1, _, _, hn, _⟩
    · have := congrArg (fun v => match v with | Value.slice _ n c => (n, c) | _ => (0, 0)) h1; simp at this; omega
    · have := congrArg (fun v => match v with | Value.slice _ n c => (n, c) | _ => (0, 0)) h1; simp at this; omega
  · rintro rfl
    rcases hm.2 with ⟨h1, h2⟩ | ⟨g, cap, cur, h1, _⟩
    · have := congrArg (fun v => match v with | Value.slice _ n c => (n, c) | _ => (0, 0)) h1; simp at this; omega
    · have := congrArg (fun v => match v with | Value.slice o _ _ => o | _ => none) h1; simp at this
theorem sort_ok {B : List Msg} (hok : ∀ m ∈ B, m.ok) (id : Int) : ∀ m ∈ sortM (toV B id), m.ok := fun m hm => hok m (List.mem_filter.1 ((sortM_perm _).mem_iff.1 hm)).1
theorem sort_le {B : List Msg} (id : Int) : (sortM (toV B id)).length ≤ B.length := by
  rw [(sortM_perm _).length_eq]
  exact List.length_filter_le _ _
theorem PA.valued {rb cap : Nat} (h : PA w S p n s (.slice (some ⟨rb, 0, none⟩) s.G.length cap) M hm bx SB) {i : Nat} (hi : i < s.G.length) (v : Vx) (hv : s.G[i] = v) (x : Int) :
    (∃ M', PA (w.setCell ⟨rb, i * 3 + 1, none⟩ (.int .i64 x)) S p n ⟨s.G.set i ⟨v.id, x, v.es⟩, s.H, s.B⟩ (.slice (some ⟨rb, 0, none⟩) s.G.length cap) M' hm bx SB) ∧ w.cell? ⟨rb, i * 3 + 1, none⟩ = some (.int .i64 v.val) ∧ w.frozen? ⟨rb, i * 3 + 1, none⟩ = false := by
  have hiM : i < M.length := by rw [h.len]; exact hi
  obtain ⟨A, y, B, rfl, hA⟩ : ∃ A y B, M = A ++ y :: B ∧ A.length = i := ⟨M.take i, M[i], M.drop (i + 1), by rw [← List.drop_eq_getElem_cons hiM, List.take_append_drop], by rw [List.length_take]; omega⟩
  have hy : y.1 = v := by
    have h1 := h.gs
    have h2 : ((A ++ y :: B).map (·.1))[i]? = some y.1 := by subst hA; simp
    rw [h1, List.getElem?_eq_getElem hi, hv] at h2
    exact (Option.some.inj h2).symm
  have hrow := h.gw.row
  obtain ⟨g, cap', cur, e, hle, hBk, ht⟩ := own_blk hrow (by omega)
  have e2 := h.len
  refine ⟨?_, ?_, ?_⟩
  · rw [← e2] at h ⊢
    have := h.val x
    rw [hA, hy] at this
    exact ⟨_, this⟩
  · obtain ⟨ao, cap'', e3, hvx⟩ := h.at_
    cases e3
    obtain ⟨b, off, e3, _, hc⟩ := hvx (by omega)
    cases e3
    obtain ⟨eo, ec, _, e1, _⟩ := hc i hi
    rw [hv, Nat.zero_add] at e1
    exact e1
  · rw [e2] at e
    cases e
    exact hBk.soft _
set_option maxRecDepth 100000 in
set_option maxHeartbeats 2000000 in
/-- No room among its messages. -/
theorem turn_none (h : PA w S p n s sv M hm bx SB) (hB : s.B.length * 32 ≤ 140737488355328) (hok : ∀ m ∈ s.B, m.ok) {i : Nat} (hi : i < s.G.length) (hi2 : i ≤ 1073741824) (hl : s.G.length ≤ 1073741824) (v : Vx) (hv : s.G[i] = v) (hid : I64 v.id) {pr : Value} {k : Int} (hCo : ∀ W, Calls Tryz.prog 136 #[pr] W fun r w' => r = .returned (.int .i64 k) ∧ w' = W) (hn : combO k (sortM (toV s.B v.id)) = none)
    {step mny : Int} {bef : Nat → Option Int} {po : Option Addr} {pn pc : Nat} :
    Calls Tryz.prog 84 #[.pointer (some ⟨p, 0, none⟩), .int .i64 i, pr, .agg #[.int .i64 step, .int .i64 0, .int .i64 0, .slice none 0 0, .bool false, .slice none 0 0, .bool (oh bef 0), .bool (oh bef 1), .bool (oh bef 2), .bool (oh bef 3), .bool (oh bef 4), .int .i64 (ov bef 0), .int .i64 (ov bef 1), .int .i64 (ov bef 2), .int .i64 (ov bef 3), .int .i64 (ov bef 4), .int .i64 mny, .slice po pn pc]] w fun r w' => r = .returned (.agg #[.int .i64 0, .bool false, .slice none 0 0, .slice none 0 0, .bool false, .bool false, .bool false, .bool false, .bool false, .int .i64 0, .int .i64 0, .int .i64 0, .int .i64 0, .int .i64 0, .int .i64 20]) ∧ PA w' S p n s sv M hm bx SB ∧ Below w.heap.size w w' := by
  obtain ⟨W0, hW0⟩ : ∃ W0, (w.alloc (.cells #[.int .i64 step, .int .i64 0, .int .i64 0, .slice none 0 0, .bool false, .slice none 0 0, .bool (oh bef 0), .bool (oh bef 1), .bool (oh bef 2), .bool (oh bef 3), .bool (oh bef 4), .int .i64 (ov bef 0), .int .i64 (ov bef 1), .int .i64 (ov bef 2), .int .i64 (ov bef 3), .int .i64 (ov bef 4), .int .i64 mny, .slice po pn pc] 177)).alloc (.cells #[.int .i64 0, .bool false, .slice none 0 0, .slice none 0 0, .bool false, .bool false, .bool false, .bool false, .bool false, .int .i64 0, .int .i64 0, .int .i64 0, .int .i64 0, .int .i64 0, .int .i64 0] 174) = W0 := ⟨_, rfl⟩
  obtain ⟨hIn, hOut, hB0, hs0⟩ := two_boxes w _ hW0
  have h0 := (h.mono (T := fun k => S k ∧ k < w.heap.size) (fun k hk hs => ⟨hs, hk⟩)).new hB0
  obtain ⟨c0, c1, c2⟩ := h0.cells
  obtain ⟨ao, cap, rfl, hvx⟩ := h0.at_
  obtain ⟨rb, off, rfl, _, hc⟩ := hvx (by omega)
  obtain ⟨eo, ec, e0, e1, e2, e3⟩ := hc i hi
  rw [hv] at e0 e1 e2 e3
  have HP : Hid (PA W0 (fun k => S k ∧ k < w.heap.size) p n s (.slice (some ⟨rb, off, none⟩) s.G.length cap) M hm bx SB) := h0
  have HOut : Hid _ := hOut
  have HB0 : Hid _ := hB0
  have HS0 : Hid _ := hs0
  have HC2 : Hid _ := c2
  have HE0 : Hid _ := e0
  have HOk : Hid (∀ m ∈ s.B, m.ok) := hok
  have HNn : Hid _ := hn
  have HCo : Hid (∀ W, Calls Tryz.prog 136 #[pr] W fun r w' => r = .returned (.int .i64 k) ∧ w' = W) := hCo
  have hiG : (i : Int) < (s.G.length : Int) := by omega
  clear h h0 hIn hOut hB0 hs0 hc hvx hok e1 e2 e3 hCo hn
  go_enter Tryz.func84, Tryz.ntmps84
  go_upto_region 2 with (fail)
  refine turn_r2 (pr := pr) (p := p) (bx := bx) (rb := rb) (off := off + i * 3) (n := (sortM (toV s.B v.id)).length) (k := k) (id := v.id) (e := 20) (FQ := fun mo mc W => MsAt W (fun _ => True) mo (sortM (toV s.B v.id)) ∧ (sortM (toV s.B v.id)).length ≤ mc ∧ (mo = none → mc = 0)) (CQ := fun v0 _ => v0 = .slice none 0 0) rfl rfl rfl rfl HC2.out HE0.out HCo.out (fun W hb => for_msgs HP.out hB hid hb) (fun W mo mc hb hq => ?_) (fun mo mc W W' hq hb => ⟨hq.1.new hb, hq.2⟩) (fun v W W' h _ => h) ?_
  · refine (combine_any k _ mc hq.1 (sort_ok HOk.out _) (by have := sort_le (B := s.B) v.id; omega) hq.2.1 hq.2.2).mono ?_
    rw [HNn.out]
    rintro r w' ⟨h1, hb'⟩
    exact ⟨_, h1, rfl, hb'⟩
  intro X W hb ⟨hx, hx2⟩
  have HO2 : Hid _ := OutBox.new HOut.out hb
  have HP2 : Hid _ := HP.out.new hb
  have HB2 : Hid (Below w.heap.size w W) := HB0.out.trans (hb.mono HB0.out.size)
  clear hb HOut HP c0 c1 c2 HE0 HC2 e0
  simp only [puts]
  rw [hx, hx2]
  simp only [Act.put, List.setIfInBounds_toArray, List.set_cons_succ, List.set_cons_zero]
  go_wp2_with (refine wpList_store_row rfl 174 _ _ rfl (w.heap.size + 1) #[.int .i64 0, .bool false, .slice none 0 0, .slice none 0 0, .bool false, .bool false, .bool false, .bool false, .bool false, .int .i64 0, .int .i64 0, .int .i64 0, .int .i64 0, .int .i64 0, .int .i64 20] rfl rfl 174 #[.int .i64 0, .bool false, .slice none 0 0, .slice none 0 0, .bool false, .bool false, .bool false, .bool false, .bool false, .int .i64 0, .int .i64 0, .int .i64 0, .int .i64 0, .int .i64 0, .int .i64 0] HO2.out size_out rfl (by simp [Value.oneCell']) ?_)
  refine bodyPost_ret (v := .agg #[.int .i64 0, .bool false, .slice none 0 0, .slice none 0 0, .bool false, .bool false, .bool false, .bool false, .bool false, .int .i64 0, .int .i64 0, .int .i64 0, .int .i64 0, .int .i64 0, .int .i64 20]) (results_cell_row Tryz.results84 _ _ (w.heap.size + 1) 174 _ (0, 0) _ rfl (setRow_heap _ _ _ _ _ _ HO2.out) Tryz.underlying174 rfl size_out) rfl ?_
  exact ⟨rfl, (HP2.out.kept (fr_setRow _ _ _) (fun k hk e => by omega)).mono (fun k _ hs => hs.1), k_setRow HB2.out (by omega) _⟩
set_option maxRecDepth 100000 in
set_option maxHeartbeats 4000000 in
/-- There is room: the program is asked. -/
theorem turn_some (h : PA w S p n s sv M hm bx SB) (hnm : n < maxLen) (hB : s.B.length * 32 ≤ 140737488355328) (hok : ∀ m ∈ s.B, m.ok) {i : Nat} (hi : i < s.G.length) (hl : s.G.length ≤ 1073741824) (v : Vx) (hv : s.G[i] = v) (hid : I64 v.id) {pr : Value} {k : Int} (hCo : ∀ W, Calls Tryz.prog 136 #[pr] W fun r w' => r = .returned (.int .i64 k) ∧ w' = W) {l : List Msg} (hn : combO k (sortM (toV s.B v.id)) = some l)
    {f : PStep} {ps : List Int} {step mny : Int} {bef : Nat → Option Int} {po : Option Addr} {pn pc : Nat} (hpn : pn = ps.length) (hps : IsAt w po ps) (hSt : StepC pr f ps step bef mny v l) {fo : Option POut} (hfo : f step v l bef mny = fo) :
    Calls Tryz.prog 84 #[.pointer (some ⟨p, 0, none⟩), .int .i64 i, pr, .agg #[.int .i64 step, .int .i64 0, .int .i64 0, .slice none 0 0, .bool false, .slice none 0 0, .bool (oh bef 0), .bool (oh bef 1), .bool (oh bef 2), .bool (oh bef 3), .bool (oh bef 4), .int .i64 (ov bef 0), .int .i64 (ov bef 1), .int .i64 (ov bef 2), .int .i64 (ov bef 3), .int .i64 (ov bef 4), .int .i64 mny, .slice po pn pc]] w fun r w' => StepR w w' r fo ∧ TurnA w w' S p n s sv M hm bx SB i v fo := by
  obtain ⟨W0, hW0⟩ : ∃ W0, (w.alloc (.cells #[.int .i64 step, .int .i64 0, .int .i64 0, .slice none 0 0, .bool false, .slice none 0 0, .bool (oh bef 0), .bool (oh bef 1), .bool (oh bef 2), .bool (oh bef 3), .bool (oh bef 4), .int .i64 (ov bef 0), .int .i64 (ov bef 1), .int .i64 (ov bef 2), .int .i64 (ov bef 3), .int .i64 (ov bef 4), .int .i64 mny, .slice po pn pc] 177)).alloc (.cells #[.int .i64 0, .bool false, .slice none 0 0, .slice none 0 0, .bool false, .bool false, .bool false, .bool false, .bool false, .int .i64 0, .int .i64 0, .int .i64 0, .int .i64 0, .int .i64 0, .int .i64 0] 174) = W0 := ⟨_, rfl⟩
  obtain ⟨hIn, hOut, hB0, hs0⟩ := two_boxes w _ hW0
  have h0 := (h.mono (T := fun k => S k ∧ k < w.heap.size) (fun k hk hs => ⟨hs, hk⟩)).new hB0
  have hiM : i < M.length := by rw [h.len]; exact hi
  obtain ⟨rb, cap, cur, hsv, _⟩ := own_blk h0.gw.row (by omega)
  rw [h.len] at hsv
  obtain ⟨c0, c1, c2⟩ := h0.cells
  obtain ⟨ao, cap', e, hvx⟩ := h0.at_
  subst hsv
  cases e
  obtain ⟨b, off, e, _, hc⟩ := hvx (by omega)
  cases e
  obtain ⟨eo, ec, e0, e1, e2, e3⟩ := hc i hi
  rw [hv, Nat.zero_add] at e0 e1 e2
  rw [hv] at e3
  have HP : Hid (PA W0 (fun k => S k ∧ k < w.heap.size) p n s (.slice (some ⟨rb, 0, none⟩) s.G.length cap) M hm bx SB) := h0
  have HOut : Hid _ := hOut
  have HIn : Hid _ := hIn
  have HB0 : Hid _ := hB0
  have HS0 : Hid _ := hs0
  have HC2 : Hid _ := c2
  have HE : Hid (W0.cell? ⟨rb, i * 3, none⟩ = some (.int .i64 v.id) ∧ W0.cell? ⟨rb, i * 3 + 1, none⟩ = some (.int .i64 v.val) ∧ W0.cell? ⟨rb, i * 3 + 2, none⟩ = some (.slice eo v.es.length ec) ∧ EdAt W0 (fun _ => True) eo v.es) := ⟨e0, e1, e2, e3⟩
  have HOk : Hid (∀ m ∈ s.B, m.ok) := hok
  have HNn : Hid _ := hn
  have HCo : Hid (∀ W, Calls Tryz.prog 136 #[pr] W fun r w' => r = .returned (.int .i64 k) ∧ w' = W) := hCo
  have HSt : Hid (StepC pr f ps step bef mny v l) := hSt
  have HPs : Hid (IsAt w po ps) := hps
  have HPn : Hid _ := hpn
  have HV : Hid _ := hv
  have HFo : Hid _ := hfo
  have hiG : (i : Int) < (s.G.length : Int) := by omega
  clear h h0 hIn hOut hB0 hs0 hc hvx hok e0 e1 e2 e3 hCo hn hSt hps hpn hv hfo
  go_enter Tryz.func84, Tryz.ntmps84
  go_upto_region 2 with (fail)
  refine turn_r2 (pr := pr) (p := p) (bx := bx) (rb := rb) (off := i * 3) (n := (sortM (toV s.B v.id)).length) (k := k) (id := v.id) (e := 0) (FQ := fun mo mc W => MsAt W (fun _ => True) mo (sortM (toV s.B v.id)) ∧ (sortM (toV s.B v.id)).length ≤ mc ∧ (mo = none → mc = 0)) (CQ := fun v0 W => ∃ mo mc, v0 = .slice mo l.length mc ∧ MsAt W (fun k => W0.heap.size ≤ k) mo l) rfl rfl rfl rfl HC2.out HE.out.1 HCo.out (fun W hb => for_msgs HP.out hB hid hb) (fun W mo mc hb hq => ?_) (fun mo mc W W' hq hb => ⟨hq.1.new hb, hq.2⟩) (fun v W W' h hb => by obtain ⟨mo, mc, e, h'⟩ := h; exact ⟨mo, mc, e, h'.new hb⟩) ?_
  · refine (combine_new k _ mc hq.1 (sort_ok HOk.out _) (by have := sort_le (B := s.B) v.id; omega) hq.2.1 hq.2.2).mono ?_
    rw [HNn.out]
    rintro r w' ⟨⟨mo', mc', h1, h2⟩, hb'⟩
    exact ⟨_, h1, ⟨mo', mc', rfl, h2.mono (fun k _ hk => Nat.le_trans hb.size hk)⟩, hb'⟩
  intro X W hb ⟨⟨mo, mc, hx, hms⟩, hx2⟩
  have HO2 : Hid _ := OutBox.new HOut.out hb
  have HI2 : Hid _ := InBox.new HIn.out hb
  have HP2 : Hid _ := HP.out.new hb
  have HMs : Hid (MsAt W (fun k => w.heap.size + 2 ≤ k) mo l) := hms.mono (fun k _ hk => by have := HS0.out; omega)
  have HE2 : Hid (W.cell? ⟨rb, i * 3, none⟩ = some (.int .i64 v.id) ∧ W.cell? ⟨rb, i * 3 + 1, none⟩ = some (.int .i64 v.val) ∧ W.cell? ⟨rb, i * 3 + 2, none⟩ = some (.slice eo v.es.length ec) ∧ EdAt W (fun _ => True) eo v.es) := ⟨(hb.cell (p := ⟨rb, i * 3, none⟩) (lt_cell HE.out.1)).trans HE.out.1, (hb.cell (p := ⟨rb, i * 3 + 1, none⟩) (lt_cell HE.out.1)).trans HE.out.2.1, (hb.cell (p := ⟨rb, i * 3 + 2, none⟩) (lt_cell HE.out.1)).trans HE.out.2.2.1, HE.out.2.2.2.new hb⟩
  have HB2 : Hid (Below w.heap.size w W) := HB0.out.trans (hb.mono HB0.out.size)
  have HS2 : Hid (w.heap.size + 2 ≤ W.heap.size) := by have := hb.size; have := HS0.out; show _ ≤ _; omega
  clear hb HOut HIn HP c0 c1 c2 HE HC2 hms HB0 HS0 hW0
  simp only [puts]
  rw [hx, hx2]
  simp only [Act.put, List.setIfInBounds_toArray, List.set_cons_succ, List.set_cons_zero]
  go_upto_region 5 with (fail)
  have hib : ¬ rb = w.heap.size := by have := (HP2.out.inG rb (.inl rfl)).2; omega
  have hip : ¬ p = w.heap.size := by have := (HP2.out.inP).2; omega
  have hih : ¬ hm = w.heap.size := by have := (HP2.out.inH).2; omega
  refine turn_r5 (p := p) (ib := w.heap.size) (rb := rb) (off := i * 3) (hm := hm) (en := v.es.length) (ec := ec) (mn := l.length) (mc := mc) (eo := eo) (mo := mo) (id := v.id) (va := v.val) (ha := s.H v.id) rfl rfl rfl rfl rfl HE2.out.1 HE2.out.2.1 HE2.out.2.2.1 HP2.out.cells.2.1 (fun W' e => (HP2.out.hal.same e).look hid) HP2.out.hal.lt hib hip hih HI2.out ?_
  intro Y W3 ⟨hf3, hI3⟩
  have HO3 : Hid _ := (hf3.block _ (Array.getElem?_eq_some_iff.1 HO2.out).1 (by omega)).trans HO2.out
  have HI3 : Hid _ := hI3
  have HP3 : Hid _ := HP2.out.kept hf3 (fun k hk e => by omega)
  have HMs3 : Hid (MsAt W3 (fun _ => True) mo l) := by
    exact HMs.out.kept hf3 (Q := fun _ => True) (fun k hk hk2 => ⟨by omega, trivial⟩)
  have hB3 : Below w.heap.size w W3 := HB2.out.trans (hf3.below HB2.out.size (fun k e => by omega))
  have HPs3 : Hid (IsAt W3 po ps) := IsAt.new HPs.out hB3
  have hq2 := fr_cell hf3 hib HE2.out.2.2.1
  have hq0 := fr_cell hf3 hib HE2.out.1
  have HEd3 : Hid (EdAt W3 (fun _ => True) eo v.es) := by
    obtain ⟨ao, cap', e, hvx⟩ := HP3.out.at_
    cases e
    obtain ⟨b, off, e, _, hc⟩ := hvx (by omega)
    cases e
    obtain ⟨eo', ec', _, _, e2, e3⟩ := hc i hi
    rw [HV.out] at e2 e3
    rw [Nat.zero_add, hq2] at e2
    cases e2
    exact e3
  have HC0 : Hid (W3.cell? ⟨rb, i * 3, none⟩ = some (.int .i64 v.id)) := hq0
  have HB3 : Hid _ := hB3
  have HS3 : Hid (w.heap.size + 2 ≤ W3.heap.size) := by have := hf3.size; have := HS2.out; show _ ≤ _; omega
  clear hf3 hI3 hB3 hq2 hq0 HI2 HO2 HP2 HMs HE2 HB2 HS2 hx hx2
  simp only [puts]
  simp only [Act.put, List.setIfInBounds_toArray, List.set_cons_succ, List.set_cons_zero, List.set_nil]
  cases fo with
  | none =>
    go_upto_region 7 with (first
      | (refine wpList_load_row rfl 177 _ rfl w.heap.size rfl 177 #[.int .i64 step, .int .i64 v.id, .int .i64 v.val, .slice eo v.es.length ec, .bool (s.H v.id), .slice mo l.length mc, .bool (oh bef 0), .bool (oh bef 1), .bool (oh bef 2), .bool (oh bef 3), .bool (oh bef 4), .int .i64 (ov bef 0), .int .i64 (ov bef 1), .int .i64 (ov bef 2), .int .i64 (ov bef 3), .int .i64 (ov bef 4), .int .i64 mny, .slice po pn pc] (0, 0) _ HI3.out Tryz.underlying177 rfl size_in ?_)
      | (go_at_call 138; refine Calls.mono (HSt.out _ eo ec _ mo mc po pn pc HPn.out HEd3.out HMs3.out HPs3.out) ?_; rw [HFo.out]; rintro r w4 ⟨⟨e, he, rfl⟩, hb4⟩; have HE4 : Hid (e ≠ 0) := he; have HB4 : Hid _ := hb4; have HO4 : Hid _ := OutBox.new HO3.out hb4; have HP4 : Hid _ := HP3.out.new hb4; clear he hb4))
    generalize hW5 : World.alloc w4 _ = W5
    have hb5 : Below w4.heap.size w4 W5 := by rw [← hW5]; exact one_newK _ _
    have hO5 : OutBox W5 w4.heap.size #[.int .i64 0, .bool false, .slice none 0 0, .slice none 0 0, .bool false, .bool false, .bool false, .bool false, .bool false, .int .i64 0, .int .i64 0, .int .i64 0, .int .i64 0, .int .i64 0, .int .i64 e] := by rw [← hW5]; exact OutBox.made _ _
    have HO5 : Hid _ := OutBox.new HO4.out hb5
    have HP5 : Hid _ := HP4.out.new hb5
    have HB5 : Hid (Below w.heap.size w W5) := (HB3.out.trans (HB4.out.mono HB3.out.size)).trans (hb5.mono (by have := HB3.out.size; have := HB4.out.size; omega))
    obtain ⟨_, _, _, _, _, _, _, _, _, _, _, _, _, _, q14⟩ := OutBox.cells hO5
    have HX5 : Hid _ := hO5
    have he0 : (e == 0) = false := by simpa using HE4.out
    clear hW5 hb5 hO5 HO4 HP4
    go_wp2_with (first
      | (refine wpList_load_row rfl 174 _ rfl w4.heap.size rfl 174 #[.int .i64 0, .bool false, .slice none 0 0, .slice none 0 0, .bool false, .bool false, .bool false, .bool false, .bool false, .int .i64 0, .int .i64 0, .int .i64 0, .int .i64 0, .int .i64 0, .int .i64 e] (0, 0) _ HX5.out Tryz.underlying174 rfl size_out ?_)
      | (refine wpList_store_row rfl 174 _ _ rfl (w.heap.size + 1) #[.int .i64 0, .bool false, .slice none 0 0, .slice none 0 0, .bool false, .bool false, .bool false, .bool false, .bool false, .int .i64 0, .int .i64 0, .int .i64 0, .int .i64 0, .int .i64 0, .int .i64 e] rfl rfl 174 #[.int .i64 0, .bool false, .slice none 0 0, .slice none 0 0, .bool false, .bool false, .bool false, .bool false, .bool false, .int .i64 0, .int .i64 0, .int .i64 0, .int .i64 0, .int .i64 0, .int .i64 0] HO5.out size_out rfl (by simp [Value.oneCell']) ?_))
    refine bodyPost_ret (v := .agg #[.int .i64 0, .bool false, .slice none 0 0, .slice none 0 0, .bool false, .bool false, .bool false, .bool false, .bool false, .int .i64 0, .int .i64 0, .int .i64 0, .int .i64 0, .int .i64 0, .int .i64 e]) (results_cell_row Tryz.results84 _ _ (w.heap.size + 1) 174 _ (0, 0) _ rfl (setRow_heap _ _ _ _ _ _ HO5.out) Tryz.underlying174 rfl size_out) rfl ?_
    exact ⟨⟨e, HE4.out, rfl⟩, (HP5.out.kept (fr_setRow _ _ _) (fun k hk e => by omega)).mono (fun k _ hs => hs.1), k_setRow HB5.out (by omega) _⟩
  | some o =>
    go_upto_region 7 with (first
      | (refine wpList_load_row rfl 177 _ rfl w.heap.size rfl 177 #[.int .i64 step, .int .i64 v.id, .int .i64 v.val, .slice eo v.es.length ec, .bool (s.H v.id), .slice mo l.length mc, .bool (oh bef 0), .bool (oh bef 1), .bool (oh bef 2), .bool (oh bef 3), .bool (oh bef 4), .int .i64 (ov bef 0), .int .i64 (ov bef 1), .int .i64 (ov bef 2), .int .i64 (ov bef 3), .int .i64 (ov bef 4), .int .i64 mny, .slice po pn pc] (0, 0) _ HI3.out Tryz.underlying177 rfl size_in ?_)
      | (go_at_call 138; refine Calls.mono (HSt.out _ eo ec _ mo mc po pn pc HPn.out HEd3.out HMs3.out HPs3.out) ?_; rw [HFo.out]; rintro r w4 ⟨⟨so, sc, ao, ac, rfl, hkm, hku⟩, hb4⟩; have HKm : Hid _ := hkm; have HKu : Hid _ := hku; have HB4 : Hid _ := hb4; have HO4 : Hid _ := OutBox.new HO3.out hb4; have HP4 : Hid _ := HP3.out.new hb4; clear hkm hku hb4))
    generalize hW5 : World.alloc w4 _ = W5
    have hb5 : Below w4.heap.size w4 W5 := by rw [← hW5]; exact one_newK _ _
    have hO5 : OutBox W5 w4.heap.size #[.int .i64 o.v, .bool o.halt, .slice so o.sent.length sc, .slice ao o.asked.length ac, .bool (oh o.agg 0), .bool (oh o.agg 1), .bool (oh o.agg 2), .bool (oh o.agg 3), .bool (oh o.agg 4), .int .i64 (ov o.agg 0), .int .i64 (ov o.agg 1), .int .i64 (ov o.agg 2), .int .i64 (ov o.agg 3), .int .i64 (ov o.agg 4), .int .i64 0] := by rw [← hW5]; exact OutBox.made _ _
    have HO5 : Hid _ := OutBox.new HO4.out hb5
    have HP5 : Hid _ := HP4.out.new hb5
    have HKm5 : Hid _ := k_new HKm.out hb5
    have HKu5 : Hid _ := k_new HKu.out hb5
    have HS5 : Hid (w.heap.size + 2 ≤ w4.heap.size ∧ w4.heap.size < W5.heap.size ∧ W3.heap.size ≤ w4.heap.size) := by
      have h1 := HS3.out
      have h2 := HB4.out.size
      have h3 := (Array.getElem?_eq_some_iff.1 hO5).1
      exact ⟨by omega, h3, h2⟩
    have HB5 : Hid (Below w.heap.size w W5) := (HB3.out.trans (HB4.out.mono HB3.out.size)).trans (hb5.mono (by have := HB3.out.size; have := HB4.out.size; omega))
    have HC5 : Hid (W5.cell? ⟨rb, i * 3, none⟩ = some (.int .i64 v.id)) := (hb5.cell (p := ⟨rb, i * 3, none⟩) (lt_cell ((HB4.out.cell (p := ⟨rb, i * 3, none⟩) (lt_cell HC0.out)).trans HC0.out))).trans ((HB4.out.cell (p := ⟨rb, i * 3, none⟩) (lt_cell HC0.out)).trans HC0.out)
    obtain ⟨q0, _, _, _, _, _, _, _, _, _, _, _, _, _, q14⟩ := OutBox.cells hO5
    have HX5 : Hid _ := hO5
    clear hW5 hb5 hO5 HO4 HP4 HKm HKu HC0
    obtain ⟨⟨M', hP6⟩, qv, qf⟩ := HP5.out.valued hi v HV.out o.v
    have HP6 : Hid _ := hP6
    clear hP6
    go_upto_region 9 with (fail)
    generalize hW6 : World.setCell _ _ _ = W6
    have hf6 : Fr W5 W6 (fun k => k = rb) := by rw [← hW6]; exact Fr.setCell (S := fun k => k = rb) W5 ⟨rb, _, none⟩ _ rfl
    rw [hW6] at HP6
    have hrbl : rb < w.heap.size := (HP5.out.inG rb (.inl rfl)).2
    have hO6 : OutBox W6 w4.heap.size #[.int .i64 o.v, .bool o.halt, .slice so o.sent.length sc, .slice ao o.asked.length ac, .bool (oh o.agg 0), .bool (oh o.agg 1), .bool (oh o.agg 2), .bool (oh o.agg 3), .bool (oh o.agg 4), .int .i64 (ov o.agg 0), .int .i64 (ov o.agg 1), .int .i64 (ov o.agg 2), .int .i64 (ov o.agg 3), .int .i64 (ov o.agg 4), .int .i64 0] := (hf6.block _ (Array.getElem?_eq_some_iff.1 HX5.out).1 (by have := HS5.out; omega)).trans HX5.out
    have HR6 : Hid (OutBox W6 (w.heap.size + 1) #[.int .i64 0, .bool false, .slice none 0 0, .slice none 0 0, .bool false, .bool false, .bool false, .bool false, .bool false, .int .i64 0, .int .i64 0, .int .i64 0, .int .i64 0, .int .i64 0, .int .i64 0]) := (hf6.block _ (Array.getElem?_eq_some_iff.1 HO5.out).1 (by omega)).trans HO5.out
    have hi6 : W6.cell? ⟨rb, i * 3, none⟩ = some (.int .i64 v.id) := by
      obtain ⟨ao, cap'', e3, hvx⟩ := HP6.out.at_
      have hl6 : (s.G.set i ⟨v.id, o.v, v.es⟩).length = s.G.length := List.length_set
      obtain ⟨b, off, e4, _, hc⟩ := hvx (by show 0 < (s.G.set i ⟨v.id, o.v, v.es⟩).length; omega)
      obtain ⟨eo', ec', e0, _⟩ := hc i (by show i < (s.G.set i ⟨v.id, o.v, v.es⟩).length; omega)
      subst e4
      injection e3 with e5 e6 e7
      cases e5
      simpa using e0
    obtain ⟨_, o1, _⟩ := OutBox.cells hO6
    have HF6 : Hid (Fr W5 W6 (fun k => k = rb)) := hf6
    have HX6 : Hid _ := hO6
    clear hW6 hf6 hO6 HX5 HO5 HC5 HP5 q0 q14 qv qf
    refine turn_r9 (p := p) (rb := rb) (off := i * 3) (ob := w4.heap.size) (id := v.id) (c := o.halt) (TQ := fun W' => PA W' (fun k => S k ∧ k < w.heap.size) p (n + 1) ⟨s.G.set i ⟨v.id, o.v, v.es⟩, fun y => if y = v.id then o.halt else s.H y, s.B⟩ (.slice (some ⟨rb, 0, none⟩) s.G.length cap) M' hm bx SB ∧ Fr W6 W' (fun k => k = hm)) rfl rfl rfl rfl hi6 o1 (fun W' hb => ?_) ?_
    · refine (lay_any (HP6.out.new hb) hnm hid o.halt).mono ?_
      rintro r w' ⟨rfl, h1, h2⟩
      exact ⟨rfl, h1, (Fr.ofBelow hb _).trans h2 (fun _ _ h => h)⟩
    intro Z W9 ⟨hP9, hf9⟩
    have hhml : hm < w.heap.size := (HP6.out.inH).2
    have HX9 : Hid (OutBox W9 w4.heap.size #[.int .i64 o.v, .bool o.halt, .slice so o.sent.length sc, .slice ao o.asked.length ac, .bool (oh o.agg 0), .bool (oh o.agg 1), .bool (oh o.agg 2), .bool (oh o.agg 3), .bool (oh o.agg 4), .int .i64 (ov o.agg 0), .int .i64 (ov o.agg 1), .int .i64 (ov o.agg 2), .int .i64 (ov o.agg 3), .int .i64 (ov o.agg 4), .int .i64 0]) := (hf9.block _ (Array.getElem?_eq_some_iff.1 HX6.out).1 (by have := HS5.out; omega)).trans HX6.out
    have HR9 : Hid (OutBox W9 (w.heap.size + 1) #[.int .i64 0, .bool false, .slice none 0 0, .slice none 0 0, .bool false, .bool false, .bool false, .bool false, .bool false, .int .i64 0, .int .i64 0, .int .i64 0, .int .i64 0, .int .i64 0, .int .i64 0]) := (hf9.block _ (Array.getElem?_eq_some_iff.1 HR6.out).1 (by omega)).trans HR6.out
    have HK9 : Hid (KM W9 W3.heap.size (.slice so o.sent.length sc) o.sent) := k_fr (k_fr HKm5.out HF6.out (fun k hk e => by have := HS3.out; omega)) hf9 (fun k hk e => by have := HS3.out; omega)
    have HU9 : Hid (KU W9 W3.heap.size (.slice ao o.asked.length ac) o.asked) := k_fr (k_fr HKu5.out HF6.out (fun k hk e => by have := HS3.out; omega)) hf9 (fun k hk e => by have := HS3.out; omega)
    have HP9 : Hid _ := hP9
    have HF9 : Hid (Fr w W9 (fun k => k = rb ∨ k = hm)) := ((Fr.ofBelow HB5.out _).trans HF6.out (fun _ _ h => Or.inl h)).trans hf9 (fun _ _ h => Or.inr h)
    have HSr : Hid (S rb ∧ S hm) := ⟨(HP6.out.inG rb (.inl rfl)).1, (HP6.out.inH).1⟩
    clear hP9 hf9 HX6 HR6 HKm5 HKu5 HF6 HP6 hi6 o1
    simp only [puts]
    simp only [Act.put, List.setIfInBounds_toArray, List.set_cons_succ, List.set_cons_zero]
    go_wp2_with (first
      | (refine wpList_load_row rfl 174 _ rfl w4.heap.size rfl 174 #[.int .i64 o.v, .bool o.halt, .slice so o.sent.length sc, .slice ao o.asked.length ac, .bool (oh o.agg 0), .bool (oh o.agg 1), .bool (oh o.agg 2), .bool (oh o.agg 3), .bool (oh o.agg 4), .int .i64 (ov o.agg 0), .int .i64 (ov o.agg 1), .int .i64 (ov o.agg 2), .int .i64 (ov o.agg 3), .int .i64 (ov o.agg 4), .int .i64 0] (0, 0) _ HX9.out Tryz.underlying174 rfl size_out ?_)
      | (refine wpList_store_row rfl 174 _ _ rfl (w.heap.size + 1) #[.int .i64 o.v, .bool o.halt, .slice so o.sent.length sc, .slice ao o.asked.length ac, .bool (oh o.agg 0), .bool (oh o.agg 1), .bool (oh o.agg 2), .bool (oh o.agg 3), .bool (oh o.agg 4), .int .i64 (ov o.agg 0), .int .i64 (ov o.agg 1), .int .i64 (ov o.agg 2), .int .i64 (ov o.agg 3), .int .i64 (ov o.agg 4), .int .i64 0] rfl rfl 174 #[.int .i64 0, .bool false, .slice none 0 0, .slice none 0 0, .bool false, .bool false, .bool false, .bool false, .bool false, .int .i64 0, .int .i64 0, .int .i64 0, .int .i64 0, .int .i64 0, .int .i64 0] HR9.out size_out rfl (by simp [Value.oneCell']) ?_))
    refine bodyPost_ret (v := .agg #[.int .i64 o.v, .bool o.halt, .slice so o.sent.length sc, .slice ao o.asked.length ac, .bool (oh o.agg 0), .bool (oh o.agg 1), .bool (oh o.agg 2), .bool (oh o.agg 3), .bool (oh o.agg 4), .int .i64 (ov o.agg 0), .int .i64 (ov o.agg 1), .int .i64 (ov o.agg 2), .int .i64 (ov o.agg 3), .int .i64 (ov o.agg 4), .int .i64 0]) (results_cell_row Tryz.results84 _ _ (w.heap.size + 1) 174 _ (0, 0) _ rfl (setRow_heap _ _ _ _ _ _ HR9.out) Tryz.underlying174 rfl size_out) rfl ?_
    have hfr := fr_setRow W9 (w.heap.size + 1) #[.int .i64 o.v, .bool o.halt, .slice so o.sent.length sc, .slice ao o.asked.length ac, .bool (oh o.agg 0), .bool (oh o.agg 1), .bool (oh o.agg 2), .bool (oh o.agg 3), .bool (oh o.agg 4), .int .i64 (ov o.agg 0), .int .i64 (ov o.agg 1), .int .i64 (ov o.agg 2), .int .i64 (ov o.agg 3), .int .i64 (ov o.agg 4), .int .i64 0]
    refine ⟨⟨so, sc, ao, ac, rfl, k_low (k_fr HK9.out hfr (fun k hk e => by have := HS3.out; omega)) HB3.out.size, k_low (k_fr HU9.out hfr (fun k hk e => by have := HS3.out; omega)) HB3.out.size⟩, M', (HP9.out.kept hfr (fun k hk e => by omega)).mono (fun k _ hs => hs.1), ?_⟩
    exact (HF9.out.mono (T := S) (fun k hk h => by rcases h with rfl | rfl; exact HSr.out.1; exact HSr.out.2)).trans hfr (fun k hk e => by omega)
end
end Go.Proofs.YtnhijofnhflklaaGreat
end
