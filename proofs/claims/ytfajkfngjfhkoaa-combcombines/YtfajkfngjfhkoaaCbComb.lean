/- ref, join and Combine, and the document's Combine. -/
import Derived.Test.YtfajkfngjfhkoaaCbLaw1
import Derived.Test.YtfajkfngjfhkoaaNmAdd
namespace Go.Proofs.Ytfajkfngjfhkoaa
open Go.RowKit
theorem infoR : (Try.prog.info? 66).map (fun i => (i.zero, i.size, i.bytes)) = some (some (.agg #[.int .i64 0, .int .i64 0, .int .i64 0, .int .i64 0]), 4, 32) := by kernel_rfl
set_option maxRecDepth 100000 in
set_option maxHeartbeats 1000000 in
theorem ref_msgs {w : World} {P : Nat → Prop} {ao : Option Addr} (L : List Msg) (cap : Nat) (h : MsAt w P ao L) (hl : L.length * 32 ≤ 140737488355328) :
    Calls Try.prog 37 #[.slice ao L.length cap] w fun r w' => ∃ g c, r = .returned (.slice (some ⟨g, 0, none⟩) L.length c) ∧ w.heap.size ≤ g ∧ Mo w' 66 (.slice (some ⟨g, 0, none⟩) L.length c) L ∧ Below w.heap.size w w' := by
  obtain ⟨i0, hi, hz0, hz1, hz2⟩ := info_parts infoR
  have HG : Hid (MsAt w P ao L) := h
  clear h
  go_enter Try.func37, Try.ntmps37
  go_wp2
  go_loopw [3, 4] (fun u i wr => ∃ (j g c : Nat), j ≤ L.length ∧ w.heap.size ≤ g ∧ u = .slice (some ⟨g, 0, none⟩) j c ∧ i = .int .i64 j ∧ Mo wr 66 (.slice (some ⟨g, 0, none⟩) j c) (L.take j) ∧ Below w.heap.size w wr) (fun _ i _ => L.length - (intOf i).toNat)
  case atStart =>
    exact ⟨0, w.heap.size, 0, Nat.zero_le _, Nat.le_refl _, rfl, rfl, World.ownsRow_made w #[] 0 (Nat.zero_le _) (by decide) (by simp), (Below.refl _ w).alloc (Nat.le_refl _) _⟩
  case round =>
    obtain ⟨j, g, c, hj, hg, rfl, rfl, hR, hb⟩ := hrel
    by_cases hlt : j < L.length
    · obtain ⟨b, off, rfl, hP, hc⟩ := HG.out (by omega)
      obtain ⟨e0, e1, e2, e3⟩ := hc j hlt
      have d0 := (hb.cell (p := ⟨b, off + j * 4, none⟩) (lt_cell e0)).trans e0
      have d1 := (hb.cell (p := ⟨b, off + j * 4 + 1, none⟩) (lt_cell e0)).trans e1
      have d2 := (hb.cell (p := ⟨b, off + j * 4 + 2, none⟩) (lt_cell e0)).trans e2
      have d3 := (hb.cell (p := ⟨b, off + j * 4 + 3, none⟩) (lt_cell e0)).trans e3
      have HS : Hid (L.take (j + 1) = L.take j ++ [L[j]]) := List.take_succ_eq_append_getElem hlt
      have HLg : Hid ((L.take j).length = j) := by show _ = _; rw [List.length_take]; omega
      generalize L[j] = y at d0 d1 d2 d3 HS
      have HR : Hid _ := hR
      have HB : Hid _ := hb
      clear e0 e1 e2 e3 hc hR hb
      go_wp2_with (at_builtin; refine wpList_append_own_at _ rfl _ _ 57 rfl 0 66 i0 (.agg #[.int .i64 0, .int .i64 0, .int .i64 0, .int .i64 0]) 4 32 Try.underlying57 hi hz0 hz1 hz2 rfl (by decide) _ _ _ rfl (Mo.alloc HR.out _) ⟨wr.heap.size, 0, none⟩ 1 1 [.int .i64 y.f, .int .i64 y.t, .int .i64 y.a, .int .i64 y.v] rfl rfl (m_four (heap_alloc_new _ _)) (msgOne y) (by rw [HLg.out]; unfold maxLen; omega) (by rw [HLg.out]; omega) (Nat.zero_le _) ?_)
      intro v' w4 hown hgrow hne hat
      have hM4 : Mo w4 66 v' (L.take (j + 1)) := by rw [HS.out]; exact Mo.snoc (by rw [HLg.out]; exact hown)
      have hB4 : Below w.heap.size w w4 := (HB.out.alloc HB.out.size _).trans ((Fr.grown hgrow (S := fun k => k = g) (fun k hk => by cases hk; rfl)).below (by have := HB.out.size; simp; omega) (fun k hk => by omega))
      obtain ⟨g', c', rfl, hg'⟩ : ∃ g' c', v' = .slice (some ⟨g', 0, none⟩) (j + 1) c' ∧ w.heap.size ≤ g' := by
        rcases hown.2 with ⟨h1, h2⟩ | ⟨g', c', cur, rfl, _⟩
        · omega
        · refine ⟨g', c', rfl, ?_⟩
          have hsz := HB.out.size
          rcases hat with e | e
          · simp only [Value.ownBlock, Option.some.injEq] at e; omega
          · simp only [Value.ownBlock, Option.some.injEq] at e; omega
      have HM4 : Hid _ := hM4
      have HB4 : Hid _ := hB4
      clear hM4 hB4 hown hgrow hne hat
      go_wp2
      go_roundw
      case rel => exact ⟨j + 1, g', c', by omega, hg', rfl, by go_num, HM4.out, HB4.out⟩
      case measure => simp [intOf]; omega
    · obtain rfl : j = L.length := by omega
      rw [List.take_length] at hR
      have HR : Hid _ := hR
      have HB : Hid _ := hb
      clear hR hb
      go_wp2
      go_ret
      exact ⟨g, c, rfl, hg, HR.out, HB.out⟩
theorem jnE_false {k a b : Int} (h : jnE k a b = false) (ha : I64 a) (hb : I64 b) : I64 (jn k a b) := by
  unfold jnE at h
  unfold jn
  unfold I64 at *
  simp only [decide_eq_false_iff_not] at h
  split
  · split <;> omega
  · split
    · split <;> omega
    · omega
def jV (k a b : Int) : Int := if jnE k a b then 0 else jn k a b
def jEr (k a b : Int) : Int := if jnE k a b then 20 else 0
set_option maxHeartbeats 400000 in
theorem join_any {k a b : Int} {w : World} (ha : I64 a) (hb : I64 b) : Calls Try.prog 66 #[.int .i64 k, .int .i64 a, .int .i64 b] w fun e w' => e = .returned (.tuple #[.int .i64 (jV k a b), .int .i64 (jEr k a b)]) ∧ w' = w := by
  by_cases h2 : k = 2
  · subst h2
    have e1 : jnE 2 a b = false := by simp [jnE]
    have e3 : jEr 2 a b = 0 := by simp [jEr, e1]
    have e2 : jV 2 a b = min a b := by
      simp only [jV, jn, e1, if_true, Bool.false_eq_true, if_false]
      split <;> omega
    rw [e2, e3]
    go_enter Try.func66, Try.ntmps66
    go_wp2
    go_ret2
    exact ⟨rfl, rfl⟩
  · by_cases h3 : k = 3
    · subst h3
      have e1 : jnE 3 a b = false := by simp [jnE]
      have e3 : jEr 3 a b = 0 := by simp [jEr, e1]
      have e2 : jV 3 a b = max a b := by
        simp only [jV, jn, e1, if_true, Bool.false_eq_true, if_false, show ((3 : Int) = 2) = False by simp]
        split <;> omega
      rw [e2, e3]
      go_enter Try.func66, Try.ntmps66
      go_wp2
      go_ret2
      exact ⟨rfl, rfl⟩
    · have b2 : (k == 2) = false := by simpa using h2
      have b3 : (k == 3) = false := by simpa using h3
      have e2 : jV k a b = hv (a + b) := by
        simp only [jV, jnE, jn, hv, h2, h3, ne_eq, not_false_eq_true, true_and, if_false]
        by_cases h : -9223372036854775808 ≤ a + b ∧ a + b ≤ 9223372036854775807 <;> simp [h]
      have e3 : jEr k a b = he (a + b) := by
        simp only [jEr, jnE, he, h2, h3, ne_eq, not_false_eq_true, true_and]
        by_cases h : -9223372036854775808 ≤ a + b ∧ a + b ≤ 9223372036854775807 <;> simp [h]
      rw [e2, e3]
      have HA : Hid _ := ha
      have HB : Hid _ := hb
      clear e2 e3 ha hb
      go_enter Try.func66, Try.ntmps66
      go_wp2_with (go_at_call 91; refine (add_any a b _ HA.out.1 HA.out.2 HB.out.1 HB.out.2).mono ?_; rintro e w1 ⟨rfl, rfl⟩; simp only [ans])
      go_ret2
      exact ⟨rfl, rfl⟩
/-- What a combiner makes: none, where there is no room. -/
def combO (k : Int) : List Msg → Option (List Msg)
  | [] => some []
  | m :: l => if k = 0 then some (m :: l) else (foldM k m.v l).map fun v => [⟨m.f, m.t, m.a, v⟩]
/-- What Combine returns. -/
def CombR (w' : World) (r : Ending) : Option (List Msg) → Prop
  | none => r = .returned (.tuple #[.slice none 0 0, .int .i64 20])
  | some R => ∃ ao c, r = .returned (.tuple #[.slice ao R.length c, .int .i64 0]) ∧ MsAt w' (fun _ => True) ao R
/-- .. of a slice that is not nil: none is nil. -/
def CombS (w' : World) (r : Ending) : Option (List Msg) → Prop
  | none => r = .returned (.tuple #[.slice none 0 0, .int .i64 20])
  | some R => ∃ a c, r = .returned (.tuple #[.slice (some a) R.length c, .int .i64 0]) ∧ MsAt w' (fun _ => True) (some a) R
theorem CombS.toR {w' : World} {r : Ending} : ∀ {o : Option (List Msg)}, CombS w' r o → CombR w' r o
  | none, h => h
  | some R, h => by
    obtain ⟨a, c, h1, h2⟩ := h
    exact ⟨some a, c, h1, h2⟩
theorem foldM_step {k x y : Int} {l : List Msg} {j : Nat} (hj : j < l.length) (h : foldM k x (l.take j) = some y) : (jnE k y l[j].v = false → foldM k x (l.take (j + 1)) = some (jn k y l[j].v)) ∧ (jnE k y l[j].v = true → foldM k x l = none) := by
  have e1 : foldM k x (l.take (j + 1)) = if jnE k y l[j].v then none else some (jn k y l[j].v) := by
    rw [List.take_succ_eq_append_getElem hj, foldM_app, h]
    simp only [Option.bind_some, foldM]
  refine ⟨fun hf => by rw [e1, hf]; rfl, fun hf => ?_⟩
  have e2 : l = l.take (j + 1) ++ l.drop (j + 1) := (List.take_append_drop _ _).symm
  rw [e2, foldM_app, e1, hf]
  rfl
theorem one_at {W : World} {g : Nat} {t : TypeId} {m : Msg} (h : W.heap[g]? = some (.cells #[.int .i64 m.f, .int .i64 m.t, .int .i64 m.a, .int .i64 m.v] t (0, 0))) : MsAt W (fun _ => True) (some ⟨g, 0, none⟩) [m] := by
  intro _
  refine ⟨g, 0, rfl, trivial, fun j hj => ?_⟩
  have : j = 0 := by simp at hj; omega
  subst this
  simpa using m_cells h
theorem MsAt.all {w : World} {P : Nat → Prop} {ao : Option Addr} {L : List Msg} (h : MsAt w P ao L) : MsAt w (fun _ => True) ao L := h.mono (fun _ _ _ => trivial)
theorem set4_3 {w : World} {b : Nat} {t : TypeId} {u0 u1 u2 u3 : Value} (h : w.heap[b]? = some (.cells #[u0, u1, u2, u3] t (0, 0))) (u : Value) : (w.setCell ⟨b, 3, none⟩ u).heap[b]? = some (.cells #[u0, u1, u2, u] t (0, 0)) := by
  have hlt := m_lt h
  have h' : w.heap[b] = .cells #[u0, u1, u2, u3] t (0, 0) := by simpa [Array.getElem?_eq_getElem hlt] using h
  show (w.heap.modify b _)[b]? = _
  rw [Array.getElem?_eq_getElem (by simpa using hlt), Array.getElem_modify_self, h']
  rfl
theorem m_froz {W : World} {b o : Nat} {t : TypeId} {cs : Array Value} (h : W.heap[b]? = some (.cells cs t (0, 0))) : W.frozen? ⟨b, o, none⟩ = false := by simp [World.frozen?, h]
set_option maxRecDepth 100000 in
set_option maxHeartbeats 1000000 in
theorem comb_one {w : World} {P : Nat → Prop} {b off cap : Nat} {k : Int} (hk : k ≠ 0) (m : Msg) (h : MsAt w P (some ⟨b, off, none⟩) [m]) :
    Calls Try.prog 38 #[.int .i64 k, .slice (some ⟨b, off, none⟩) 1 cap] w fun r w' => CombS w' r (combO k [m]) ∧ Below w.heap.size w w' := by
  have bk : (k == 0) = false := by simpa using hk
  obtain ⟨b', off', e, hP, hc⟩ := h (by simp)
  cases e
  obtain ⟨e0, e1, e2, e3⟩ := hc 0 (by simp)
  simp only [Nat.zero_mul, Nat.add_zero, List.getElem_cons_zero] at e0 e1 e2 e3
  have e : combO k [m] = some [m] := by simp [combO, hk, foldM]
  rw [e]
  clear hc h e
  go_enter Try.func38, Try.ntmps38
  go_wp2
  all_goals
    refine wp_loop_rounds 1 ?_
    rw [rounds_succ]
    go_wp2
    go_ret2
    refine ⟨⟨_, _, rfl, ?_⟩, ((Below.refl _ w).alloc (Nat.le_refl _) _).alloc (by simp) _⟩
    exact one_at (by have := heap_alloc_new (w.alloc (.cells #[.int .i64 m.f, .int .i64 m.t, .int .i64 m.a, .int .i64 m.v] 67)) (.cells #[.int .i64 m.f, .int .i64 m.t, .int .i64 m.a, .int .i64 m.v] 67); rw [World.size_alloc] at this; exact this)
set_option maxRecDepth 100000 in
set_option maxHeartbeats 1000000 in
theorem comb_fold {w : World} {P : Nat → Prop} {b off cap : Nat} {k : Int} (hk : k ≠ 0) (m : Msg) (l : List Msg) (h : MsAt w P (some ⟨b, off, none⟩) (m :: l)) (hok : ∀ x ∈ m :: l, x.ok) (hl : (m :: l).length ≤ 8796093022208) (hne : 0 < l.length) (hcap : (m :: l).length ≤ cap) :
    Calls Try.prog 38 #[.int .i64 k, .slice (some ⟨b, off, none⟩) (m :: l).length cap] w fun r w' => CombS w' r (combO k (m :: l)) ∧ Below w.heap.size w w' := by
  have bk : (k == 0) = false := by simpa using hk
  obtain ⟨b', off', e, hP, hc⟩ := h (by simp)
  cases e
  obtain ⟨e0, e1, e2, e3⟩ := hc 0 (by simp)
  simp only [Nat.zero_mul, Nat.add_zero, List.getElem_cons_zero] at e0 e1 e2 e3
  have okm := hok m (by simp)
  have HC : Hid (∀ j (h : j < l.length), w.cell? ⟨b, off + (j + 1) * 4, none⟩ = some (.int .i64 l[j].f) ∧ w.cell? ⟨b, off + (j + 1) * 4 + 1, none⟩ = some (.int .i64 l[j].t) ∧ w.cell? ⟨b, off + (j + 1) * 4 + 2, none⟩ = some (.int .i64 l[j].a) ∧ w.cell? ⟨b, off + (j + 1) * 4 + 3, none⟩ = some (.int .i64 l[j].v)) := fun j hj => hc (j + 1) (by simpa using hj)
  have HO : Hid (∀ x ∈ l, x.ok) := fun x hx => hok x (by simp [hx])
  have hlen : (m :: l).length = l.length + 1 := rfl
  have hblt := lt_cell e0
  rw [hlen] at hl hcap ⊢
  have hc1 : ¬ cap = 1 := by omega
  clear hc h hok hlen
  go_enter Try.func38, Try.ntmps38
  go_upto_region 5 with (fail)
  have h1 := heap_alloc_new w (.cells #[.int .i64 m.f, .int .i64 m.t, .int .i64 m.a, .int .i64 m.v] 67)
  have h2 : Below w.heap.size w (w.alloc (.cells #[.int .i64 m.f, .int .i64 m.t, .int .i64 m.a, .int .i64 m.v] 67)) := (Below.refl _ w).alloc (Nat.le_refl _) _
  go_loopw [4, 5, 8, 9, 10, 26, 41] (fun _ _ _ _ _ i _ wr => ∃ (j : Nat) (x : Int), j ≤ l.length ∧ i = .int .i64 j ∧ Hid (foldM k m.v (l.take j) = some x) ∧ I64 x ∧ wr.heap[w.heap.size]? = some (.cells #[.int .i64 m.f, .int .i64 m.t, .int .i64 m.a, .int .i64 x] 67 (0, 0)) ∧ Below w.heap.size w wr) (fun _ _ _ _ _ i _ _ => l.length - (intOf i).toNat)
  case atStart => exact ⟨0, m.v, Nat.zero_le _, rfl, rfl, okm.v, h1, h2⟩
  case round =>
    obtain ⟨j, x, hj, rfl, hf, hx, hq, hb⟩ := hrel
    clear h1 h2
    by_cases hlt : j < l.length
    · obtain ⟨f0, f1, f2, f3⟩ := HC.out j hlt
      have d0 := (hb.cell (p := ⟨b, off + (j + 1) * 4, none⟩) hblt).trans f0
      have d1 := (hb.cell (p := ⟨b, off + (j + 1) * 4 + 1, none⟩) hblt).trans f1
      have d2 := (hb.cell (p := ⟨b, off + (j + 1) * 4 + 2, none⟩) hblt).trans f2
      have d3 := (hb.cell (p := ⟨b, off + (j + 1) * 4 + 3, none⟩) hblt).trans f3
      rw [show off + (j + 1) * 4 = off + 4 + j * 4 by omega] at d0 d1 d2 d3
      have oky := HO.out _ (List.getElem_mem hlt)
      have HS : Hid _ := foldM_step hlt hf.out
      generalize l[j] = y at d0 d1 d2 d3 oky HS
      have HQ : Hid _ := hq
      have HB : Hid _ := hb
      have hqlt := m_lt hq
      have hq1 := fun o => (Below.heap_alloc wr o w.heap.size hqlt).trans hq
      obtain ⟨_, _, _, k3⟩ := m_cells (hq1 (.cells #[.int .i64 y.f, .int .i64 y.t, .int .i64 y.a, .int .i64 y.v] 67))
      have k4 := m_froz (o := 3) (hq1 (.cells #[.int .i64 y.f, .int .i64 y.t, .int .i64 y.a, .int .i64 y.v] 67))
      clear hq hb hq1 f0 f1 f2 f3 e0 e1 e2 e3 hf
      cases hE : jnE k x y.v
      · have HN : Hid (foldM k m.v (l.take (j + 1)) = some (jn k x y.v)) := HS.out.1 hE
        have hI := jnE_false hE hx oky.v
        have eV : jV k x y.v = jn k x y.v := by simp [jV, hE]
        have eE : jEr k x y.v = 0 := by simp [jEr, hE]
        generalize jn k x y.v = z at HN hI eV
        have HJ : Hid (Calls Try.prog 66 #[.int .i64 k, .int .i64 x, .int .i64 y.v] (wr.alloc (.cells #[.int .i64 y.f, .int .i64 y.t, .int .i64 y.a, .int .i64 y.v] 67)) fun e w' => e = .returned (.tuple #[.int .i64 z, .int .i64 0]) ∧ w' = (wr.alloc (.cells #[.int .i64 y.f, .int .i64 y.t, .int .i64 y.a, .int .i64 y.v] 67))) := by
          have := join_any (k := k) (w := (wr.alloc (.cells #[.int .i64 y.f, .int .i64 y.t, .int .i64 y.a, .int .i64 y.v] 67))) hx oky.v
          rw [eV, eE] at this
          exact this
        clear eV eE hE HS hx
        go_wp2_with (go_at_call 66; refine HJ.out.mono ?_; rintro e w1 ⟨rfl, rfl⟩)
        go_roundw
        case rel =>
          repeat apply Exists.intro
          refine ⟨⟨j + 1, z, by omega, by go_num, HN.out, hI, (Below.heap_alloc (wr.setCell ⟨w.heap.size, 3, none⟩ (.int .i64 z)) _ w.heap.size (m_lt (set4_3 HQ.out _))).trans (set4_3 HQ.out _), ?_⟩, rfl⟩
          have hz := HB.out.trans ((Fr.setCell (S := fun k => k = w.heap.size) wr ⟨w.heap.size, 3, none⟩ (.int .i64 z) rfl).below HB.out.size (fun k hk => by omega))
          exact hz.alloc hz.size _
        case measure => simp [intOf]; omega
      · have HN : Hid (combO k (m :: l) = none) := by
          show combO k (m :: l) = none
          simp [combO, hk, HS.out.2 hE]
        have eV : jV k x y.v = 0 := by simp [jV, hE]
        have eE : jEr k x y.v = 20 := by simp [jEr, hE]
        have HJ : Hid (Calls Try.prog 66 #[.int .i64 k, .int .i64 x, .int .i64 y.v] (wr.alloc (.cells #[.int .i64 y.f, .int .i64 y.t, .int .i64 y.a, .int .i64 y.v] 67)) fun e w' => e = .returned (.tuple #[.int .i64 0, .int .i64 20]) ∧ w' = (wr.alloc (.cells #[.int .i64 y.f, .int .i64 y.t, .int .i64 y.a, .int .i64 y.v] 67))) := by
          have := join_any (k := k) (w := (wr.alloc (.cells #[.int .i64 y.f, .int .i64 y.t, .int .i64 y.a, .int .i64 y.v] 67))) hx oky.v
          rw [eV, eE] at this
          exact this
        clear eV eE hE HS hx
        go_wp2_with (go_at_call 66; refine HJ.out.mono ?_; rintro e w1 ⟨rfl, rfl⟩)
        go_ret2
        exact ⟨by rw [HN.out]; rfl, HB.out.alloc HB.out.size _⟩
    · obtain rfl : j = l.length := by omega
      rw [List.take_length] at hf
      have HN : Hid (combO k (m :: l) = some [⟨m.f, m.t, m.a, x⟩]) := by
        show combO k (m :: l) = _
        simp [combO, hk, hf.out]
      obtain ⟨k0, k1, k2, k3⟩ := m_cells hq
      have HB : Hid _ := hb
      clear hf hb hq
      go_wp2
      go_ret2
      rw [HN.out]
      exact ⟨⟨_, _, rfl, one_at (heap_alloc_new wr _)⟩, HB.out.alloc HB.out.size _⟩
set_option maxRecDepth 100000 in
theorem comb_same {w : World} {P : Nat → Prop} {b off cap : Nat} (k : Int) (L : List Msg) (h : MsAt w P (some ⟨b, off, none⟩) L) (hl : L.length * 32 ≤ 140737488355328) (hk : k = 0 ∨ L = []) :
    Calls Try.prog 38 #[.int .i64 k, .slice (some ⟨b, off, none⟩) L.length cap] w fun r w' => CombS w' r (some L) ∧ Below w.heap.size w w' := by
  have HC : Hid _ := h
  have hk' : ((k == 0) = true) ∨ L = [] := by
    rcases hk with rfl | h
    · exact Or.inl rfl
    · exact Or.inr h
  clear h hk
  rcases hk' with hb | rfl
  · go_enter Try.func38, Try.ntmps38
    go_wp2_with (go_at_call 65; refine (cloneM_any _ cap HC.out hl).mono ?_; rintro e w1 ⟨g, c, rfl, hg, ho, hb⟩; have HO : Hid _ := ho; have HB : Hid _ := hb; clear ho hb)
    go_ret2
    exact ⟨⟨_, _, rfl, (Mo.at_ HO.out).all⟩, HB.out⟩
  · cases hk0 : (k == 0)
    · go_enter Try.func38, Try.ntmps38
      go_wp2_with (go_at_call 65; refine (cloneM_any _ cap HC.out hl).mono ?_; rintro e w1 ⟨g, c, rfl, hg, ho, hb⟩; have HO : Hid _ := ho; have HB : Hid _ := hb; clear ho hb)
      go_ret2
      exact ⟨⟨_, _, rfl, (Mo.at_ HO.out).all⟩, HB.out⟩
    · go_enter Try.func38, Try.ntmps38
      go_wp2_with (go_at_call 65; refine (cloneM_any _ cap HC.out hl).mono ?_; rintro e w1 ⟨g, c, rfl, hg, ho, hb⟩; have HO : Hid _ := ho; have HB : Hid _ := hb; clear ho hb)
      go_ret2
      exact ⟨⟨_, _, rfl, (Mo.at_ HO.out).all⟩, HB.out⟩
set_option maxRecDepth 100000 in
theorem comb_nil {w : World} (k : Int) : Calls Try.prog 38 #[.int .i64 k, .slice none 0 0] w fun r w' => CombR w' r (some []) ∧ Below w.heap.size w w' := by
  cases hk0 : (k == 0)
  · go_enter Try.func38, Try.ntmps38
    go_wp2_with (go_at_call 65; refine (cloneM_nil _).mono ?_; rintro e w1 ⟨rfl, rfl⟩)
    go_ret2
    exact ⟨⟨_, _, rfl, fun h => absurd h (by simp)⟩, Below.refl _ _⟩
  · go_enter Try.func38, Try.ntmps38
    go_wp2_with (go_at_call 65; refine (cloneM_nil _).mono ?_; rintro e w1 ⟨rfl, rfl⟩)
    go_ret2
    exact ⟨⟨_, _, rfl, fun h => absurd h (by simp)⟩, Below.refl _ _⟩
set_option maxRecDepth 100000 in
theorem clone_empty {w : World} (a : Addr) (c : Nat) : Calls Try.prog 65 #[.slice (some a) 0 c] w fun e w' => ∃ g cap, e = .returned (.slice (some ⟨g, 0, none⟩) 0 cap) ∧ Below w.heap.size w w' := by
  obtain ⟨i0, hi, hz0, hz1, hz2⟩ := info_parts infoMsg
  have q22 : ∀ (w : World) (a : Option Addr) (n c n' c' : Nat), (binOp .eql 58 (.slice a n c) (.slice none n' c')).run Try.prog w = .ok (.bool a.isNone) w := fun w a n c n' c' => Lib.run_eql_slice_nil w _ _ a n c n' c' Try.underlying58
  have u22 : ∀ w, Sem.run Try.prog (underlying 58) w = .ok (TypeDesc.slice 67) w := run_underlying Try.underlying58
  go_enter Try.func65, Try.ntmps65
  go_wp2_with (at_builtin; refine wpList_append_own_at _ rfl _ _ 58 rfl w.heap.size 67 i0 (.agg #[.int .i64 0, .int .i64 0, .int .i64 0, .int .i64 0]) 4 32 Try.underlying58 hi hz0 hz1 hz2 rfl (by decide) _ _ _ rfl (World.ownsRow_made w #[] 0 (Nat.le_refl _) (Nat.zero_le _) (by simp)) a 0 c [] rfl rfl (fun j u h => by simp at h) (fun u h => by simp at h) (by decide) (by decide) (by simp) ?_)
  intro v' w1 hown hgrow hnil _
  have hb : Below w.heap.size w w1 := ((Below.refl _ w).alloc (Nat.le_refl _) _).grown hgrow (by simp) (by intro k hk; simp [Value.ownBlock] at hk; omega)
  rcases hown.2 with ⟨h1, _⟩ | ⟨g, cap, cur, rfl, _⟩
  · exact absurd h1 hnil
  · have HB : Hid _ := hb
    clear hown hgrow hnil hb
    go_wp2
    go_ret
    exact ⟨g, cap, rfl, HB.out⟩
set_option maxRecDepth 100000 in
theorem comb_empty {w : World} (k : Int) (a : Addr) (c : Nat) : Calls Try.prog 38 #[.int .i64 k, .slice (some a) 0 c] w fun r w' => CombS w' r (some []) ∧ Below w.heap.size w w' := by
  cases hk0 : (k == 0)
  · go_enter Try.func38, Try.ntmps38
    go_wp2_with (go_at_call 65; refine (clone_empty a c).mono ?_; rintro e w1 ⟨g, cap, rfl, hb⟩)
    go_ret2
    exact ⟨⟨_, _, rfl, fun h => absurd h (by simp)⟩, hb⟩
  · go_enter Try.func38, Try.ntmps38
    go_wp2_with (go_at_call 65; refine (clone_empty a c).mono ?_; rintro e w1 ⟨g, cap, rfl, hb⟩)
    go_ret2
    exact ⟨⟨_, _, rfl, fun h => absurd h (by simp)⟩, hb⟩
theorem combine_some {w : World} {P : Nat → Prop} {a : Addr} (k : Int) (L : List Msg) (cap : Nat) (h : MsAt w P (some a) L) (hok : ∀ m ∈ L, m.ok) (hl : L.length * 32 ≤ 140737488355328) (hcap : L.length ≤ cap) :
    Calls Try.prog 38 #[.int .i64 k, .slice (some a) L.length cap] w fun r w' => CombS w' r (combO k L) ∧ Below w.heap.size w w' := by
  match L, h, hok, hl, hcap with
  | [], h, _, hl, _ => exact comb_empty k a cap
  | m :: l, h, hok, hl, hcap =>
    obtain ⟨b, off, e, _⟩ := h (by simp)
    cases e
    by_cases hk : k = 0
    · have e : combO k (m :: l) = some (m :: l) := by simp [combO, hk]
      rw [e]
      exact comb_same k (m :: l) h hl (Or.inl hk)
    · match l, h, hok, hl, hcap with
      | [], h, _, _, _ => exact comb_one hk m h
      | m' :: l, h, hok, hl, hcap => exact comb_fold hk m (m' :: l) h hok (by omega) (by simp) hcap
theorem combine_any {w : World} {P : Nat → Prop} {ao : Option Addr} (k : Int) (L : List Msg) (cap : Nat) (h : MsAt w P ao L) (hok : ∀ m ∈ L, m.ok) (hl : L.length * 32 ≤ 140737488355328) (hcap : L.length ≤ cap) (hn : ao = none → cap = 0) :
    Calls Try.prog 38 #[.int .i64 k, .slice ao L.length cap] w fun r w' => CombR w' r (combO k L) ∧ Below w.heap.size w w' := by
  cases ao with
  | none =>
    have hc0 := hn rfl
    subst hc0
    have e : L = [] := List.length_eq_zero_iff.1 (by omega)
    subst e
    exact comb_nil k
  | some a => exact (combine_some k L cap h hok hl hcap).mono fun _ _ h => ⟨h.1.toR, h.2⟩
end Go.Proofs.Ytfajkfngjfhkoaa
