/- CombBoxes: its walk. -/
import Derived.Test.YtfajkfngjfhkoaaLawOrd5
import Derived.Test.YtfajkfngjfhkoaaCbLen
import Derived.Test.YtfajkfngjfhkoaaCbPutR
import Derived.Test.YtfajkfngjfhkoaaLawBoxR
namespace Go.Proofs.Ytfajkfngjfhkoaa
open Go.RowKit Go.Maps
/-- Something that is done to a box. -/
structure ActD where
  k : Int
  id : Int
  lo : Option Addr
  lc : Nat
  L : List Msg
def AcsAt (w : World) (ao : Option Addr) (A : List ActD) : Prop :=
  0 < A.length → ∃ b off, ao = some ⟨b, off, none⟩ ∧ ∀ j (h : j < A.length), (w.cell? ⟨b, off + j * 3, none⟩ = some (.int .i64 A[j].k) ∧ w.cell? ⟨b, off + j * 3 + 1, none⟩ = some (.int .i64 A[j].id) ∧ w.cell? ⟨b, off + j * 3 + 2, none⟩ = some (.slice A[j].lo A[j].L.length A[j].lc)) ∧ MsAt w (fun k => k < w.heap.size) A[j].lo A[j].L
def sumA (A : List ActD) : Nat := (A.map fun a => a.L.length).sum
theorem sumA_step (A : List ActD) (j : Nat) (h : j < A.length) : sumA (A.take (j + 1)) = sumA (A.take j) + A[j].L.length := by
  unfold sumA
  rw [List.take_succ_eq_append_getElem h, List.map_append, List.sum_append]
  simp
theorem sumA_le (A : List ActD) (j : Nat) : sumA (A.take j) ≤ sumA A := by
  conv => rhs; rw [← List.take_append_drop j A]
  unfold sumA
  rw [List.map_append, List.sum_append]
  omega
theorem off_sort (B : List Msg) (id : Int) : offV (sortM B) id = sortM (offV B id) := sortM_filter B _
theorem to_sort (B : List Msg) (id : Int) : toV (sortM B) id = sortM (toV B id) := sortM_filter B _
theorem putR_sort {w : World} {g c : Nat} (B : List Msg) (m : Msg) (hM : Mo w 66 (.slice (some ⟨g, 0, none⟩) B.length c) (sortM B)) (hl : B.length ≤ 4398046511000) :
    Calls Try.prog 28 #[.slice (some ⟨g, 0, none⟩) B.length c, .agg #[.int .i64 m.f, .int .i64 m.t, .int .i64 m.a, .int .i64 m.v]] w fun r w' => ∃ g' c', r = .returned (.slice (some ⟨g', 0, none⟩) (B.length + 1) c') ∧ w.heap.size ≤ g' ∧ Mo w' 66 (.slice (some ⟨g', 0, none⟩) (B.length + 1) c') (sortM (B ++ [m])) ∧ Below w.heap.size w w' := by
  have hls := sortM_len B
  have h := putR_any (w := w) (g := g) (c := c) (sortM B) m (by rw [hls]; exact hM) (by omega)
  have ha : #[Value.slice (some ⟨g, 0, none⟩) B.length c, .agg #[.int .i64 m.f, .int .i64 m.t, .int .i64 m.a, .int .i64 m.v]] = #[Value.slice (some ⟨g, 0, none⟩) (sortM B).length c, .agg #[.int .i64 m.f, .int .i64 m.t, .int .i64 m.a, .int .i64 m.v]] := by rw [hls]
  rw [ha]
  refine h.mono ?_
  rintro r w' ⟨g', c', rfl, hg, k, hMo, hk, h1, h2, hb⟩
  have e := sortM_put B m k (by omega) h1 h2
  rw [List.append_assoc] at e
  refine ⟨g', c', by rw [hls], hg, ?_, hb⟩
  rw [← e, ← hls]
  exact hMo
/-- What stands ahead of a round: the box, the document's list, the number to stop at. -/
structure RB (w wr : World) (S : Nat → Prop) (ba bs g c N : Nat) (stop : Int) (B : List Msg) : Prop where
  row : Mo wr 66 (.slice (some ⟨g, 0, none⟩) B.length c) (sortM B)
  box : BX wr S ba N B
  le : B.length ≤ N
  inS : ∀ q, S q → w.heap.size ≤ q ∧ q < wr.heap.size
  gS : ¬ S g
  st : wr.heap[bs]? = some (.cells #[.int .i64 stop] 3 (0, 0))
  sS : ¬ S bs
  low : Below w.heap.size w wr
theorem MsAt.takeP {w : World} {P : Nat → Prop} {ao : Option Addr} {L : List Msg} (h : MsAt w P ao L) (n : Nat) : MsAt w P ao (L.take n) := by
  intro hl
  rw [List.length_take] at hl
  obtain ⟨b, off, e, hb, hc⟩ := h (by omega)
  refine ⟨b, off, e, hb, fun j hj => ?_⟩
  rw [List.length_take] at hj
  rw [List.getElem_take]
  exact hc j (by omega)
structure TN (w X : World) : Prop where
  r1 : X.heap[w.heap.size]? = some (.cells #[] 67 (0, 0))
  b1 : X.heap[w.heap.size + 1]? = some (.cells #[.slice (some ⟨w.heap.size, 0, none⟩) 0 0] 58 (0, 0))
  low : Below w.heap.size w X
  size : X.heap.size = w.heap.size + 1 + 1
theorem two_newB (w : World) : TN w ((w.alloc (.cells #[] 67)).alloc (.cells #[.slice (some ⟨w.heap.size, 0, none⟩) 0 0] 58)) := by
  have e1 := heap_alloc_new w (.cells #[] 67)
  have e2 := heap_alloc_new (w.alloc (.cells #[] 67)) (.cells #[.slice (some ⟨w.heap.size, 0, none⟩) 0 0] 58)
  rw [World.size_alloc] at e2
  exact ⟨(Below.heap_alloc _ _ _ (by simp)).trans e1, e2, ((Below.refl _ w).alloc (Nat.le_refl _) _).alloc (by simp) _, by simp⟩
theorem RB.new {w wr wx : World} {S : Nat → Prop} {ba bs g c N : Nat} {stop : Int} {B : List Msg} (h : RB w wr S ba bs g c N stop B) (hb : Below wr.heap.size wr wx) : RB w wx S ba bs g c N stop B :=
  ⟨Mo.new h.row hb, h.box.new hb, h.le, fun q hq => ⟨(h.inS q hq).1, Nat.lt_of_lt_of_le (h.inS q hq).2 hb.size⟩, h.gS, (hb.block _ (m_lt h.st)).trans h.st, h.sS, h.low.trans (hb.mono h.low.size)⟩
theorem RB.drop {w wr wx wy : World} {S : Nat → Prop} {ba bs g c g' c' N : Nat} {stop : Int} {B B' : List Msg} (h : RB w wr S ba bs g c N stop B) (hb : Below wr.heap.size wr wx) (hg : wr.heap.size ≤ g') (hM : Mo wx 66 (.slice (some ⟨g', 0, none⟩) B'.length c') (sortM B')) (hX : BX wy S ba N B') (f : Fr wx wy S) (hl : B'.length ≤ B.length) : RB w wy S ba bs g' c' N stop B' := by
  have h1 := h.new hb
  have gS : ¬ S g' := fun e => by have := (h.inS g' e).2; omega
  refine ⟨Mo.fr hM f (fun k hk e => by cases hk; exact gS e), hX, by have := h.le; omega, fun q hq => ⟨(h.inS q hq).1, by have := (h1.inS q hq).2; have := f.size; omega⟩, gS, (f.block _ (m_lt h1.st) h.sS).trans h1.st, h.sS, h1.low.trans (f.below h1.low.size (fun k hk => (h.inS k hk).1))⟩
theorem RB.put {w wr wy : World} {S : Nat → Prop} {ba bs g c N n : Nat} {stop : Int} {B B' : List Msg} (h : RB w wr S ba bs g c N stop B) (hX : BX wy (fun k => S k ∨ wr.heap.size ≤ k) ba (N + n) B') (f : Fr wr wy S) :
    Mo wy 66 (.slice (some ⟨g, 0, none⟩) B.length c) (sortM B) ∧ BX wy (fun k => S k ∨ (wr.heap.size ≤ k ∧ k < wy.heap.size)) ba (N + n) B' ∧ (∀ q, (S q ∨ (wr.heap.size ≤ q ∧ q < wy.heap.size)) → w.heap.size ≤ q ∧ q < wy.heap.size) ∧ ¬ (S g ∨ (wr.heap.size ≤ g ∧ g < wy.heap.size)) ∧ wy.heap[bs]? = some (.cells #[.int .i64 stop] 3 (0, 0)) ∧ ¬ (S bs ∨ (wr.heap.size ≤ bs ∧ bs < wy.heap.size)) ∧ Below w.heap.size w wy := by
  have hs := f.size
  have hg := Mo.lt h.row g rfl
  have hb := m_lt h.st
  have hls := h.low.size
  exact ⟨Mo.fr h.row f (fun k hk e => by cases hk; exact h.gS e), hX.mono (fun k hk e => e.imp id (fun e => ⟨e, hk⟩)), fun q hq => by rcases hq with hq | hq; (have := h.inS q hq; omega); omega, fun e => by rcases e with e | e; (exact h.gS e); omega, (f.block _ hb h.sS).trans h.st, fun e => by rcases e with e | e; (exact h.sS e); omega, h.low.trans (f.below hls (fun k hk => (h.inS k hk).1))⟩
theorem putR_n {w : World} {g c n : Nat} (B : List Msg) (m : Msg) (hn : n = B.length) (hM : Mo w 66 (.slice (some ⟨g, 0, none⟩) n c) (sortM B)) (hl : n ≤ 4398046511000) :
    Calls Try.prog 28 #[.slice (some ⟨g, 0, none⟩) n c, .agg #[.int .i64 m.f, .int .i64 m.t, .int .i64 m.a, .int .i64 m.v]] w fun r w' => ∃ g' c', r = .returned (.slice (some ⟨g', 0, none⟩) (n + 1) c') ∧ w.heap.size ≤ g' ∧ Mo w' 66 (.slice (some ⟨g', 0, none⟩) (n + 1) c') (sortM (B ++ [m])) ∧ Below w.heap.size w w' := by
  subst hn
  exact putR_sort B m hM hl
theorem forM {w wr : World} {S : Nat → Prop} {ba bs g c N : Nat} {stop : Int} {B : List Msg} (h : RB w wr S ba bs g c N stop B) {id : Int} (hl : B.length ≤ 4194304) :
    Calls Try.prog 29 #[.slice (some ⟨g, 0, none⟩) B.length c, .int .i64 id] wr fun r w' => ∃ g' c', r = .returned (.slice (some ⟨g', 0, none⟩) (toV B id).length c') ∧ Mo w' 66 (.slice (some ⟨g', 0, none⟩) (toV B id).length c') (sortM (toV B id)) ∧ Below wr.heap.size wr w' := by
  have hls := sortM_len B
  have h1 := forR_any (sortM B) id c (Mo.at_ h.row) (by rw [hls]; omega)
  rw [hls] at h1
  refine h1.mono ?_
  rintro r w' ⟨g', c', rfl, hg, hMo, hb⟩
  rw [to_sort, sortM_len] at hMo ⊢
  exact ⟨g', c', rfl, hMo, hb⟩
theorem withoutM {w wr : World} {S : Nat → Prop} {ba bs g c N : Nat} {stop : Int} {B : List Msg} (h : RB w wr S ba bs g c N stop B) {id : Int} (hl : B.length ≤ 4194304) :
    Calls Try.prog 25 #[.slice (some ⟨g, 0, none⟩) B.length c, .int .i64 id] wr fun r w' => ∃ g' c', r = .returned (.slice (some ⟨g', 0, none⟩) (offV B id).length c') ∧ wr.heap.size ≤ g' ∧ Mo w' 66 (.slice (some ⟨g', 0, none⟩) (offV B id).length c') (sortM (offV B id)) ∧ Below wr.heap.size wr w' := by
  have hls := sortM_len B
  have h1 := withoutR_any (sortM B) id c (Mo.at_ h.row) (by rw [hls]; omega)
  rw [hls] at h1
  refine h1.mono ?_
  rintro r w' ⟨g', c', rfl, hg, hMo, hb⟩
  rw [off_sort, sortM_len] at hMo ⊢
  exact ⟨g', c', rfl, hg, hMo, hb⟩
theorem sameM {w : World} {v : Value} {g n c : Nat} {L : List Msg} (h : Mo w 67 v (sortM L)) (h' : Mo w 66 (.slice (some ⟨g, 0, none⟩) n c) (sortM L)) :
    Calls Try.prog 32 #[v, .slice (some ⟨g, 0, none⟩) n c] w fun r w' => r = .returned (.bool true) ∧ Below w.heap.size w w' := by
  obtain ⟨ao, ca, rfl⟩ := Mo.shape h
  obtain ⟨bo, cb, e⟩ := Mo.shape h'
  cases e
  refine same_msgs (sortM L) ca c (Mo.at_ h) (Mo.at_ h') ?_
  rcases h'.2 with ⟨h1, _⟩ | ⟨g', c', cur, h1, _, _, h2, h3, _⟩
  · cases h1
  · cases h1
    have : c ≤ maxLen := h3
    unfold maxLen at this
    omega
set_option maxRecDepth 100000 in
set_option maxHeartbeats 1000000 in
theorem law_boxes {w : World} {ao : Option Addr} (A : List ActD) (cap : Nat) (stop : Int) (hA : AcsAt w ao A) (hok : ∀ a ∈ A, I64 a.id ∧ ∀ m ∈ a.L, m.ok) (hT : sumA A ≤ 1048576) :
    Calls Try.prog 6 #[.slice ao A.length cap, .int .i64 stop] w fun r w' => r = .returned (.bool true) ∧ Below w.heap.size w w' := by
  have HA : Hid (∀ W, Below w.heap.size w W → 0 < A.length → ∃ b off, ao = some ⟨b, off, none⟩ ∧ b < w.heap.size ∧ ∀ j (h : j < A.length), (W.cell? ⟨b, off + j * 3, none⟩ = some (.int .i64 A[j].k) ∧ W.cell? ⟨b, off + j * 3 + 1, none⟩ = some (.int .i64 A[j].id) ∧ W.cell? ⟨b, off + j * 3 + 2, none⟩ = some (.slice A[j].lo A[j].L.length A[j].lc)) ∧ MsAt W (fun k => k < w.heap.size) A[j].lo A[j].L) := fun W hb h0 => by
    obtain ⟨b, off, e, hc⟩ := hA h0
    refine ⟨b, off, e, lt_cell (hc 0 h0).1.1, fun j hj => ?_⟩
    obtain ⟨⟨h1, h2, h3⟩, h4⟩ := hc j hj
    have f := Fr.ofBelow hb (fun _ => False)
    exact ⟨⟨fr_cell f (fun h => h) h1, fr_cell f (fun h => h) h2, fr_cell f (fun h => h) h3⟩, h4.new hb⟩
  have HOk : Hid (∀ a ∈ A, I64 a.id ∧ ∀ m ∈ a.L, m.ok) := hok
  clear hA hok
  refine calls_marks Try.func6 rfl ?_
  simp only [Try.ntmps6, List.size_toArray, List.length_cons, List.length_nil, Nat.reduceAdd, Nat.reduceSub, Array.replicate_succ, Array.replicate_zero, List.push_toArray, List.append_toArray, List.nil_append, List.cons_append]
  go_wp2_with (first
    | (go_at_call 23; refine (new_box _).mono ?_; rintro r wa ⟨rfl, rfl⟩)
    | (go_at_call 24; refine (awake5 _).mono ?_; rintro r w1 ⟨rfl, hb1⟩))
  have hR0 : RB w (w1.alloc (.cells #[] 66)) (fun k => k = w.heap.size + 1) (w.heap.size + 1) w.heap.size w1.heap.size 0 0 stop [] := by
    have hs := hb1.size
    simp only [World.size_alloc] at hs hb1
    have e1 := heap_alloc_new w (.cells #[.int .i64 stop] 3)
    have hX := BX.made (w.alloc (.cells #[.int .i64 stop] 3)) (S := fun k => k = w.heap.size + 1) (by simp)
    rw [World.size_alloc] at hX
    have hb2 : Below w1.heap.size w1 (w1.alloc (.cells #[] 66)) := (Below.refl _ w1).alloc (Nat.le_refl _) _
    refine ⟨by rw [show sortM [] = [] from List.mergeSort_nil]; exact World.ownsRow_made w1 #[] 0 (Nat.zero_le _) (by decide) (by simp), (hX.new (by simpa using hb1)).new hb2, Nat.le_refl _, fun q hq => by simp; omega, fun e => by omega, ?_, fun e => by omega, ?_⟩
    · exact (hb2.block _ (by omega)).trans ((hb1.block _ (by omega)).trans ((Below.heap_alloc _ _ _ (by simp)).trans e1))
    · exact ((((Below.refl _ w).alloc (Nat.le_refl _) _).alloc (by simp) _).trans (hb1.mono (by omega))).trans (hb2.mono (by omega))
  have HR0 : Hid _ := hR0
  clear hR0 hb1
  go_wp2
  go_loopw [6, 7] (fun m i wr => ∃ (k g c N : Nat) (B : List Msg) (S : Nat → Prop), k ≤ A.length ∧ k ≤ 30 ∧ i = .int .i64 k ∧ m = .slice (some ⟨g, 0, none⟩) B.length c ∧ N ≤ sumA (A.take k) ∧ Hid (∀ m ∈ B, m.ok) ∧ RB w wr S (w.heap.size + 1) w.heap.size g c N stop B) (fun _ i _ => A.length - (intOf i).toNat)
  case atStart => exact ⟨0, _, 0, 0, [], _, Nat.zero_le _, Nat.zero_le _, rfl, rfl, Nat.zero_le _, (fun _ h => absurd h (by simp) : ∀ m ∈ ([] : List Msg), m.ok), HR0.out⟩
  case round =>
    obtain ⟨k, g, c, N, B, S, hk, hk30, rfl, rfl, hN, HOkB, hR⟩ := hrel
    have hsz := sumA_le A k
    have hBl0 : B.length ≤ 4194304 := by have := hR.le; omega
    by_cases hlt : k < A.length ∧ k < 30
    · obtain ⟨hlt, hlt30⟩ := hlt
      obtain ⟨b, off, rfl, hbw, hc⟩ := HA.out wr hR.low (by omega)
      obtain ⟨⟨c0, c1, c2⟩, hMs⟩ := hc k hlt
      obtain ⟨hI, hMok⟩ := HOk.out _ (List.getElem_mem hlt)
      have hst := sumA_step A k hlt
      have hsl := sumA_le A (k + 1)
      generalize A[k] = y at c0 c1 c2 hMs hI hMok hst
      have HCe : Hid (∀ W, Below wr.heap.size wr W → W.cell? ⟨b, off + k * 3, none⟩ = some (.int .i64 y.k) ∧ W.cell? ⟨b, off + k * 3 + 1, none⟩ = some (.int .i64 y.id) ∧ W.cell? ⟨b, off + k * 3 + 2, none⟩ = some (.slice y.lo y.L.length y.lc)) := fun W hb => by
        have f := Fr.ofBelow hb (fun _ => False)
        exact ⟨fr_cell f (fun h => h) c0, fr_cell f (fun h => h) c1, fr_cell f (fun h => h) c2⟩
      have HR : Hid _ := hR
      have HMs : Hid _ := hMs
      have HMk : Hid _ := hMok
      clear hc hR hMs hMok
      by_cases h3 : y.k = 3
      · have htl := toV_off_len B y.id
        have hsub : (B.length : Int) - ((offV B y.id).length : Int) = ((toV B y.id).length : Int) := by omega
        have hwr : IntKind.i64.wrap ((toV B y.id).length : Int) = ((toV B y.id).length : Int) := IntWalk.i64_in _ (by omega)
        have hN2 : N ≤ sumA (A.take (k + 1)) := by omega
        go_wp2_with (first
          | (go_at_call 25; refine (withoutM HR.out (id := y.id) hBl0).mono ?_; rintro r w5 ⟨g5, c5, rfl, hg5, hM5, hb5⟩; have HM5 : Hid _ := hM5; have HB5 : Hid _ := hb5; have HR5 : Hid _ := HR.out.new hb5; obtain ⟨d0, d1, d2⟩ := HCe.out _ hb5; clear hM5 hb5)
          | (go_at_call 26; refine (drop_box HR5.out.box hI).mono ?_; rintro r w6 ⟨rfl, hX6, f6⟩; have e1 := fr_cell f6 (fun e => by have := (HR.out.inS _ e).1; omega) d1; have HF6 : Hid _ := f6; have HX6 : Hid _ := hX6; clear hX6 f6))
        have hRB2 := HR.out.drop HB5.out hg5 HM5.out HX6.out HF6.out (by omega)
        have hcc := e1
        have HOk2 : Hid (∀ m ∈ offV B y.id, m.ok) := fun m hm => HOkB.out m (List.mem_filter.1 hm).1
        have HId : Hid _ := hI
        have HRB : Hid (RB w w6 S (w.heap.size + 1) w.heap.size g5 c5 N stop (offV B y.id)) := hRB2
        have hBl : ((offV B y.id)).length ≤ 4194304 := by have := hRB2.le; omega
        have hBt := toV_le (offV B y.id) y.id
        have HC6 : Hid (∀ W, Below w6.heap.size w6 W → W.cell? ⟨b, off + k * 3 + 1, none⟩ = some (.int .i64 y.id)) := fun W hb => fr_cell (Fr.ofBelow hb (fun _ => False)) (fun h => h) hcc
        clear hI hRB2
        go_wp2_with (first
          | (go_at_call 29; refine (forM HRB.out (id := y.id) hBl).mono ?_; rintro r w7 ⟨gw, cw, rfl, hMw, hb7⟩; have HMw : Hid _ := hMw; have HR7 : Hid _ := HRB.out.new hb7; have HB7 : Hid _ := hb7; have d7 := HC6.out _ hb7; clear hMw hb7)
          | (go_at_call 30; refine (len_box HR7.out.box (by omega)).mono ?_; rintro r w8 ⟨rfl, hb8⟩; have HR8 : Hid _ := HR7.out.new hb8; have HMw8 : Hid _ := Mo.new HMw.out hb8; have HB8 : Hid _ := HB7.out.trans (hb8.mono HB7.out.size); have d8 := HC6.out _ HB8.out; clear hb8)
          | (go_at_call 31; refine (has_any HR8.out.box HId.out).mono ?_; rintro r w9 ⟨rfl, h9⟩; subst h9)
          | (go_at_call 33; refine (for_any HR8.out.box HId.out (by omega)).mono ?_; rintro r w10 ⟨fv, rfl, hfn⟩; have HFn : Hid _ := hfn; have HR10 : Hid _ := HR8.out.new hfn.2.2; have HMw10 : Hid _ := Mo.new HMw8.out hfn.2.2; clear hfn)
          | (go_at_call 32; refine (sameM HFn.out.1 HMw10.out).mono ?_; rintro r w11 ⟨rfl, hb11⟩; have HR11 : Hid _ := HR10.out.new hb11; clear hb11))
        go_roundw
        case rel => exact ⟨k + 1, g5, c5, N, (offV B y.id), S, by omega, by omega, by go_num, rfl, hN2, HOk2, HR11.out⟩
        case measure => simp [intOf]; omega
      · have hke : (y.k == 3) = false := by simpa using h3
        have hle0 := HR.out.le
        have hq1 : N + y.L.length < 9223372036854775807 := by omega
        have hq2 : (B.length + y.L.length) * 32 ≤ 140737488355328 := by omega
        go_wp2_with (go_at_call 27; refine (put_box HR.out.box y.L y.lo y.lc (MsAt.mono HMs.out (fun q _ hq e => by have := (HR.out.inS q e).1; omega)) HMk.out hq1 hq2).mono ?_; rintro r w5 ⟨rfl, hX5, f5⟩; have HX5 : Hid _ := hX5; have HF5 : Hid _ := f5; clear hX5 f5)
        have hnS : ∀ q, q < w.heap.size → ¬ S q := fun q hq e => by have := (HR.out.inS q e).1; omega
        have hMs5 : MsAt w5 (fun k => k < w.heap.size) y.lo y.L := MsAt.kept HMs.out HF5.out (fun q _ hq => ⟨hnS q hq, hq⟩)
        have hc51 := fr_cell HF5.out (hnS b hbw) c1
        have hc52 := fr_cell HF5.out (hnS b hbw) c2
        obtain ⟨p1, p2, p3, p4, p5, p6, p7⟩ := HR.out.put HX5.out HF5.out
        obtain ⟨S5, hS5⟩ : ∃ S5 : Nat → Prop, (fun k => S k ∨ (wr.heap.size ≤ k ∧ k < w5.heap.size)) = S5 := ⟨_, rfl⟩
        rw [hS5] at p2
        have p3' : ∀ q, S5 q → w.heap.size ≤ q ∧ q < w5.heap.size := by rw [← hS5]; exact p3
        have p4' : ¬ S5 g := by rw [← hS5]; exact p4
        have p6' : ¬ S5 w.heap.size := by rw [← hS5]; exact p6
        have hN2 : N + y.L.length ≤ sumA (A.take (k + 1)) := by omega
        have HM5 : Hid _ := hMs5
        have P1 : Hid _ := p1
        have P2 : Hid _ := p2
        have P3 : Hid _ := p3'
        have P4 : Hid (¬ S5 g) := p4'
        have P5 : Hid _ := p5
        have P6 : Hid _ := p6'
        have P7 : Hid _ := p7
        have C51 : Hid _ := hc51
        have C52 : Hid _ := hc52
        clear hMs5 p1 p2 p3 p4 p5 p6 p7 p3' p4' p6' hc51 hc52 hS5 HX5 HF5 HR HMs hnS c0 c1 c2 HCe h3 hke
        go_loopw [6, 9] (fun u i wx => ∃ (j g2 c2 : Nat), j ≤ y.L.length ∧ i = .int .i64 j ∧ u = .slice (some ⟨g2, 0, none⟩) (B.length + j) c2 ∧ Mo wx 66 (.slice (some ⟨g2, 0, none⟩) (B.length + j) c2) (sortM (B ++ y.L.take j)) ∧ Hid (¬ S5 g2) ∧ Below w5.heap.size w5 wx) (fun _ i _ => y.L.length - (intOf i).toNat)
        case atStart => exact ⟨0, g, c, Nat.zero_le _, rfl, rfl, by rw [List.take_zero, List.append_nil]; exact P1.out, P4, Below.refl _ _⟩
        case round =>
          obtain ⟨j, g2, c2, hj, rfl, rfl, hM2, HG2, hbx⟩ := hrel
          have e2 := fr_cell (Fr.ofBelow hbx (fun _ => False)) (fun h => h) C52.out
          by_cases hjl : j < y.L.length
          · obtain ⟨b', off', hlo, _, hcm⟩ := HM5.out (by omega)
            obtain ⟨m0, m1, m2, m3⟩ := hcm j hjl
            have n0 := fr_cell (Fr.ofBelow hbx (fun _ => False)) (fun h => h) m0
            have n1 := fr_cell (Fr.ofBelow hbx (fun _ => False)) (fun h => h) m1
            have n2 := fr_cell (Fr.ofBelow hbx (fun _ => False)) (fun h => h) m2
            have n3 := fr_cell (Fr.ofBelow hbx (fun _ => False)) (fun h => h) m3
            have HTk : Hid (y.L.take (j + 1) = y.L.take j ++ [y.L[j]]) := List.take_succ_eq_append_getElem hjl
            generalize y.L[j] = x at n0 n1 n2 n3 HTk
            rw [hlo] at e2
            clear hlo
            have HM2 : Hid _ := hM2
            have HBx : Hid _ := hbx
            have HLn : Hid (B.length + j = (B ++ y.L.take j).length) := by show _ = _; rw [List.length_append, List.length_take]; omega
            clear hM2 hbx m0 m1 m2 m3 hcm
            go_wp2_with (go_at_call 28; refine (putR_n (B ++ y.L.take j) x HLn.out HM2.out (by omega)).mono ?_; rintro r w6 ⟨g3, c3, rfl, hg3, hM3, hb3⟩; have HM3 : Hid _ := hM3; have HB3 : Hid _ := hb3; clear hM3 hb3)
            go_roundw
            case rel => exact ⟨j + 1, g3, c3, by omega, by go_num, rfl, by rw [HTk.out, ← List.append_assoc]; exact HM3.out, (fun e => by have := (P3.out g3 e).2; have := HBx.out.size; omega : ¬ S5 g3), HBx.out.trans (HB3.out.mono HBx.out.size)⟩
            case measure => simp [intOf]; omega
          · obtain rfl : j = y.L.length := by omega
            rw [List.take_length] at hM2
            obtain ⟨B2, hB2⟩ : ∃ B2, B ++ y.L = B2 := ⟨_, rfl⟩
            have hlen : B.length + y.L.length = B2.length := by rw [← hB2, List.length_append]
            have hX2 := P2.out
            rw [hB2] at hM2 hX2
            rw [hlen] at hM2 ⊢
            have hRB2 : RB w wr S5 (w.heap.size + 1) w.heap.size g2 c2 (N + y.L.length) stop B2 := ⟨hM2, hX2.new hbx, by omega, fun q hq => ⟨(P3.out q hq).1, by have := (P3.out q hq).2; have := hbx.size; omega⟩, HG2.out, (hbx.block _ (m_lt P5.out)).trans P5.out, P6.out, P7.out.trans (hbx.mono P7.out.size)⟩
            have hcc := fr_cell (Fr.ofBelow hbx (fun _ => False)) (fun h => h) C51.out
            have HOk2 : Hid (∀ m ∈ B2, m.ok) := fun m hm => by rw [← hB2] at hm; rcases List.mem_append.1 hm with h | h; (exact HOkB.out m h); exact HMk.out m h
            clear hM2 hX2 hbx hB2
            have HId : Hid _ := hI
            have HRB : Hid (RB w wr S5 (w.heap.size + 1) w.heap.size g2 c2 (N + y.L.length) stop B2) := hRB2
            have hBl : B2.length ≤ 4194304 := by have := hRB2.le; omega
            have hBt := toV_le B2 y.id
            have HC6 : Hid (∀ W, Below wr.heap.size wr W → W.cell? ⟨b, off + k * 3 + 1, none⟩ = some (.int .i64 y.id)) := fun W hb => fr_cell (Fr.ofBelow hb (fun _ => False)) (fun h => h) hcc
            clear hI hRB2
            go_wp2_with (first
              | (go_at_call 29; refine (forM HRB.out (id := y.id) hBl).mono ?_; rintro r w7 ⟨gw, cw, rfl, hMw, hb7⟩; have HMw : Hid _ := hMw; have HR7 : Hid _ := HRB.out.new hb7; have HB7 : Hid _ := hb7; have d7 := HC6.out _ hb7; clear hMw hb7)
              | (go_at_call 30; refine (len_box HR7.out.box (by omega)).mono ?_; rintro r w8 ⟨rfl, hb8⟩; have HR8 : Hid _ := HR7.out.new hb8; have HMw8 : Hid _ := Mo.new HMw.out hb8; have HB8 : Hid _ := HB7.out.trans (hb8.mono HB7.out.size); have d8 := HC6.out _ HB8.out; clear hb8)
              | (go_at_call 31; refine (has_any HR8.out.box HId.out).mono ?_; rintro r w9 ⟨rfl, h9⟩; subst h9)
              | (go_at_call 33; refine (for_any HR8.out.box HId.out (by omega)).mono ?_; rintro r w10 ⟨fv, rfl, hfn⟩; have HFn : Hid _ := hfn; have HR10 : Hid _ := HR8.out.new hfn.2.2; have HMw10 : Hid _ := Mo.new HMw8.out hfn.2.2; clear hfn)
              | (go_at_call 32; refine (sameM HFn.out.1 HMw10.out).mono ?_; rintro r w11 ⟨rfl, hb11⟩; have HR11 : Hid _ := HR10.out.new hb11; clear hb11))
            go_roundw
            case rel => exact ⟨k + 1, g2, c2, (N + y.L.length), B2, S5, by omega, by omega, by go_num, rfl, hN2, HOk2, HR11.out⟩
            case measure => simp [intOf]; omega
    · have hk2 : (k < A.length ∧ k = 30) ∨ k = A.length := by omega
      rcases hk2 with ⟨hkA, rfl⟩ | rfl
      · skip
        have HTN : Hid _ := two_newB wr
        obtain ⟨X, hX⟩ : ∃ X, (wr.alloc (.cells #[] 67)).alloc (.cells #[.slice (some ⟨wr.heap.size, 0, none⟩) 0 0] 58) = X := ⟨_, rfl⟩
        rw [hX] at HTN
        have HRX : Hid (RB w X S (w.heap.size + 1) w.heap.size g c N stop B) := hR.new HTN.out.low
        have HR : Hid _ := hR
        have szX := HTN.out.size
        have hgl := Mo.lt hR.row g rfl
        have hbl := m_lt hR.st
        have hnc : B.length ≤ c := by
          rcases hR.row.2 with ⟨h1, _⟩ | ⟨g', c', cur, h1, _, _, h2, _⟩
          · cases h1
          · simp only [Value.slice.injEq] at h1
            obtain ⟨_, _, rfl⟩ := h1
            rw [sortM_len] at h2; exact h2
        clear hR
        go_wp2_with (go_at_call 34; refine (allB_fn HRX.out.box).mono ?_; rintro r' w7 ⟨Bs, mv, rfl, hBs, hM7, hb7⟩)
        have sz7 := hb7.size
        have hR7 := HRX.out.new hb7
        refine box_range (O := fun k => (S k ∨ X.heap.size ≤ k) ∧ k < w7.heap.size) (bp := wr.heap.size + 1) (br := wr.heap.size) (bs := w.heap.size) (stop := stop) (hM7.mono (fun k hk h => ⟨h, hk⟩)) (fun k hk => hk.2) hBs (by omega) HOkB.out ((hb7.block _ (m_lt HTN.out.b1)).trans HTN.out.b1) ((hb7.block _ (m_lt HTN.out.r1)).trans HTN.out.r1) (fun h => by rcases h.1 with e | e; (have := (HR.out.inS _ e).2; omega); omega) (fun h => by rcases h.1 with e | e; (have := (HR.out.inS _ e).2; omega); omega) hR7.st (fun h => by omega) (fun h => by omega) ?_
        intro wx D T pre hCP hpre hD hTD hK
        obtain ⟨⟨sv, p1, p2, p3⟩, _, pf⟩ := hCP
        obtain ⟨po, pc, rfl⟩ := Mo.shape p2
        have hls : (sortM B).length = B.length := sortM_len B
        have hrow : Mo wx 66 (.slice (some ⟨g, 0, none⟩) B.length c) (sortM B) := Mo.fr hR7.row pf (fun k hk e => by simp only [Value.ownBlock, Option.some.injEq] at hk; omega)
        have y0 := (bx_one ((pf.block _ (m_lt hR7.st) (fun e => by omega)).trans hR7.st)).1
        have y1 := (bx_one p1).1
        have hsw := HR.out.low.size
        have hlow : Below w.heap.size w wx := hR7.low.trans (pf.below hR7.low.size (fun k hk => by omega))
        have hple : pre.length ≤ B.length ∧ MsAt wx (fun _ => True) (some ⟨g, 0, none⟩) pre := by
          rcases hpre with ⟨rfl, _⟩ | ⟨hpr, _, _⟩
          · exact ⟨by omega, MsAt.mono (Mo.at_ hrow) (fun _ _ _ => trivial)⟩
          · refine ⟨by have := hpr.length_le; omega, ?_⟩
            have e := List.prefix_iff_eq_take.1 hpr
            rw [e]
            exact MsAt.mono (MsAt.takeP (Mo.at_ hrow) pre.length) (fun _ _ _ => trivial)
        obtain ⟨hple, hMp⟩ := hple
        have HSame : Hid (∀ W n cc, n = pre.length → Below wx.heap.size wx W → Calls Try.prog 32 #[.slice po pre.length pc, .slice (some ⟨g, 0, none⟩) n cc] W fun r w' => r = .returned (.bool true) ∧ Below W.heap.size W w') := fun W n cc hn hb => by
          subst hn
          exact same_msgs pre pc cc (Mo.at_ (Mo.new p2 hb)) (hMp.new hb) (by omega)
        have HLow : Hid _ := hlow
        have HK : Hid _ := hK
        have hDw : w.heap.size ≤ D := by omega
        have hcase : (stop ≤ 0 ∧ pre.length = B.length) ∨ (0 < stop ∧ ¬ stop < (B.length : Int) ∧ pre.length = B.length) ∨ (0 < stop ∧ stop < (B.length : Int) ∧ stop = (pre.length : Int)) := by
          rcases hpre with ⟨rfl, h⟩ | ⟨_, h, h0⟩ <;> omega
        clear hpre hrow p1 p2 p3 pf hM7 hBs hb7 hR7 HRX HTN HR hlow hK hMp hX HOkB
        rcases hcase with ⟨h1, h2⟩ | ⟨h1, h2, h3⟩ | ⟨h1, h2, h3⟩
        · have h0 : ¬ 0 < stop := by omega
          have H2 : Hid (pre.length = B.length) := h2
          clear h2
          go_wp2_with (go_at_call 32; refine (HSame.out _ _ _ H2.out.symm (Below.refl _ _)).mono ?_; rintro r w8 ⟨rfl, hb8⟩; have HB8 : Hid _ := hb8; clear hb8)
          refine ret_marks1 (v := .bool true) (by simp [results, Try.results6, go_sem]) rfl ((HB8.out.block _ (m_lt HK.out)).trans HK.out) ⟨rfl, ?_⟩
          have k1 : Below w.heap.size w w8 := HLow.out.trans (HB8.out.mono HLow.out.size)
          exact k1.trans ((Fr.putObj (S := fun k => k = D) _ rfl).below k1.size (fun k hk => by omega))
        · have H2 : Hid (pre.length = B.length) := h3
          clear h3
          go_wp2_with (go_at_call 32; refine (HSame.out _ _ _ H2.out.symm (Below.refl _ _)).mono ?_; rintro r w8 ⟨rfl, hb8⟩; have HB8 : Hid _ := hb8; clear hb8)
          refine ret_marks1 (v := .bool true) (by simp [results, Try.results6, go_sem]) rfl ((HB8.out.block _ (m_lt HK.out)).trans HK.out) ⟨rfl, ?_⟩
          have k1 : Below w.heap.size w w8 := HLow.out.trans (HB8.out.mono HLow.out.size)
          exact k1.trans ((Fr.putObj (S := fun k => k = D) _ rfl).below k1.size (fun k hk => by omega))
        · subst h3
          have hq1 : 0 < pre.length := by omega
          have hq2 : pre.length < B.length := by omega
          have hq3 : ¬ c < pre.length := by omega
          go_wp2_with (go_at_call 32; refine (HSame.out _ _ _ rfl (Below.refl _ _)).mono ?_; rintro r w8 ⟨rfl, hb8⟩; have HB8 : Hid _ := hb8; clear hb8)
          refine ret_marks1 (v := .bool true) (by simp [results, Try.results6, go_sem]) rfl ((HB8.out.block _ (m_lt HK.out)).trans HK.out) ⟨rfl, ?_⟩
          have k1 : Below w.heap.size w w8 := HLow.out.trans (HB8.out.mono HLow.out.size)
          exact k1.trans ((Fr.putObj (S := fun k => k = D) _ rfl).below k1.size (fun k hk => by omega))
      · skip
        have HTN : Hid _ := two_newB wr
        obtain ⟨X, hX⟩ : ∃ X, (wr.alloc (.cells #[] 67)).alloc (.cells #[.slice (some ⟨wr.heap.size, 0, none⟩) 0 0] 58) = X := ⟨_, rfl⟩
        rw [hX] at HTN
        have HRX : Hid (RB w X S (w.heap.size + 1) w.heap.size g c N stop B) := hR.new HTN.out.low
        have HR : Hid _ := hR
        have szX := HTN.out.size
        have hgl := Mo.lt hR.row g rfl
        have hbl := m_lt hR.st
        have hnc : B.length ≤ c := by
          rcases hR.row.2 with ⟨h1, _⟩ | ⟨g', c', cur, h1, _, _, h2, _⟩
          · cases h1
          · simp only [Value.slice.injEq] at h1
            obtain ⟨_, _, rfl⟩ := h1
            rw [sortM_len] at h2; exact h2
        clear hR
        go_wp2_with (go_at_call 34; refine (allB_fn HRX.out.box).mono ?_; rintro r' w7 ⟨Bs, mv, rfl, hBs, hM7, hb7⟩)
        have sz7 := hb7.size
        have hR7 := HRX.out.new hb7
        refine box_range (O := fun k => (S k ∨ X.heap.size ≤ k) ∧ k < w7.heap.size) (bp := wr.heap.size + 1) (br := wr.heap.size) (bs := w.heap.size) (stop := stop) (hM7.mono (fun k hk h => ⟨h, hk⟩)) (fun k hk => hk.2) hBs (by omega) HOkB.out ((hb7.block _ (m_lt HTN.out.b1)).trans HTN.out.b1) ((hb7.block _ (m_lt HTN.out.r1)).trans HTN.out.r1) (fun h => by rcases h.1 with e | e; (have := (HR.out.inS _ e).2; omega); omega) (fun h => by rcases h.1 with e | e; (have := (HR.out.inS _ e).2; omega); omega) hR7.st (fun h => by omega) (fun h => by omega) ?_
        intro wx D T pre hCP hpre hD hTD hK
        obtain ⟨⟨sv, p1, p2, p3⟩, _, pf⟩ := hCP
        obtain ⟨po, pc, rfl⟩ := Mo.shape p2
        have hls : (sortM B).length = B.length := sortM_len B
        have hrow : Mo wx 66 (.slice (some ⟨g, 0, none⟩) B.length c) (sortM B) := Mo.fr hR7.row pf (fun k hk e => by simp only [Value.ownBlock, Option.some.injEq] at hk; omega)
        have y0 := (bx_one ((pf.block _ (m_lt hR7.st) (fun e => by omega)).trans hR7.st)).1
        have y1 := (bx_one p1).1
        have hsw := HR.out.low.size
        have hlow : Below w.heap.size w wx := hR7.low.trans (pf.below hR7.low.size (fun k hk => by omega))
        have hple : pre.length ≤ B.length ∧ MsAt wx (fun _ => True) (some ⟨g, 0, none⟩) pre := by
          rcases hpre with ⟨rfl, _⟩ | ⟨hpr, _, _⟩
          · exact ⟨by omega, MsAt.mono (Mo.at_ hrow) (fun _ _ _ => trivial)⟩
          · refine ⟨by have := hpr.length_le; omega, ?_⟩
            have e := List.prefix_iff_eq_take.1 hpr
            rw [e]
            exact MsAt.mono (MsAt.takeP (Mo.at_ hrow) pre.length) (fun _ _ _ => trivial)
        obtain ⟨hple, hMp⟩ := hple
        have HSame : Hid (∀ W n cc, n = pre.length → Below wx.heap.size wx W → Calls Try.prog 32 #[.slice po pre.length pc, .slice (some ⟨g, 0, none⟩) n cc] W fun r w' => r = .returned (.bool true) ∧ Below W.heap.size W w') := fun W n cc hn hb => by
          subst hn
          exact same_msgs pre pc cc (Mo.at_ (Mo.new p2 hb)) (hMp.new hb) (by omega)
        have HLow : Hid _ := hlow
        have HK : Hid _ := hK
        have hDw : w.heap.size ≤ D := by omega
        have hcase : (stop ≤ 0 ∧ pre.length = B.length) ∨ (0 < stop ∧ ¬ stop < (B.length : Int) ∧ pre.length = B.length) ∨ (0 < stop ∧ stop < (B.length : Int) ∧ stop = (pre.length : Int)) := by
          rcases hpre with ⟨rfl, h⟩ | ⟨_, h, h0⟩ <;> omega
        clear hpre hrow p1 p2 p3 pf hM7 hBs hb7 hR7 HRX HTN HR hlow hK hMp hX HOkB
        rcases hcase with ⟨h1, h2⟩ | ⟨h1, h2, h3⟩ | ⟨h1, h2, h3⟩
        · have h0 : ¬ 0 < stop := by omega
          have H2 : Hid (pre.length = B.length) := h2
          clear h2
          go_wp2_with (go_at_call 32; refine (HSame.out _ _ _ H2.out.symm (Below.refl _ _)).mono ?_; rintro r w8 ⟨rfl, hb8⟩; have HB8 : Hid _ := hb8; clear hb8)
          refine ret_marks1 (v := .bool true) (by simp [results, Try.results6, go_sem]) rfl ((HB8.out.block _ (m_lt HK.out)).trans HK.out) ⟨rfl, ?_⟩
          have k1 : Below w.heap.size w w8 := HLow.out.trans (HB8.out.mono HLow.out.size)
          exact k1.trans ((Fr.putObj (S := fun k => k = D) _ rfl).below k1.size (fun k hk => by omega))
        · have H2 : Hid (pre.length = B.length) := h3
          clear h3
          go_wp2_with (go_at_call 32; refine (HSame.out _ _ _ H2.out.symm (Below.refl _ _)).mono ?_; rintro r w8 ⟨rfl, hb8⟩; have HB8 : Hid _ := hb8; clear hb8)
          refine ret_marks1 (v := .bool true) (by simp [results, Try.results6, go_sem]) rfl ((HB8.out.block _ (m_lt HK.out)).trans HK.out) ⟨rfl, ?_⟩
          have k1 : Below w.heap.size w w8 := HLow.out.trans (HB8.out.mono HLow.out.size)
          exact k1.trans ((Fr.putObj (S := fun k => k = D) _ rfl).below k1.size (fun k hk => by omega))
        · subst h3
          have hq1 : 0 < pre.length := by omega
          have hq2 : pre.length < B.length := by omega
          have hq3 : ¬ c < pre.length := by omega
          go_wp2_with (go_at_call 32; refine (HSame.out _ _ _ rfl (Below.refl _ _)).mono ?_; rintro r w8 ⟨rfl, hb8⟩; have HB8 : Hid _ := hb8; clear hb8)
          refine ret_marks1 (v := .bool true) (by simp [results, Try.results6, go_sem]) rfl ((HB8.out.block _ (m_lt HK.out)).trans HK.out) ⟨rfl, ?_⟩
          have k1 : Below w.heap.size w w8 := HLow.out.trans (HB8.out.mono HLow.out.size)
          exact k1.trans ((Fr.putObj (S := fun k => k = D) _ rfl).below k1.size (fun k hk => by omega))
end Go.Proofs.Ytfajkfngjfhkoaa
