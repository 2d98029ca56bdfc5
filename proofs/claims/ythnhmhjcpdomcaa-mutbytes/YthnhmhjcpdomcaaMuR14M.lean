import Derived.Test.YthnhmhjcpdomcaaGrRefKM
import Derived.Test.YthnhmhjcpdomcaaMuThat
import Derived.Test.YthnhmhjcpdomcaaRegI
import Derived.Test.YthnhmhjcpdomcaaMuBytesMM
section
/- What the laws of requests share: the graph's box. -/
namespace Go.Proofs.Ythnhmhjcpdomcaa
open Go.RowKit Go.Sort
/-- The graph's box stands. -/
structure OB (w W : World) (ao : Option Addr) (n cap : Nat) : Prop where
  box : W.heap[w.heap.size]? = some (.cells #[.slice ao n cap] 24 (0, 0))
  low : Below w.heap.size w W
theorem OB.new {w W W' : World} {ao : Option Addr} {n cap : Nat} (h : OB w W ao n cap) (hb : Below W.heap.size W W') : OB w W' ao n cap :=
  ⟨(hb.block _ (Array.getElem?_eq_some_iff.1 h.box).1).trans h.box, h.low.trans (hb.mono h.low.size)⟩
theorem OB.cell {w W : World} {ao : Option Addr} {n cap : Nat} (h : OB w W ao n cap) : W.cell? ⟨w.heap.size, 0, none⟩ = some (.slice ao n cap) := by simp [World.cell?, h.box]
theorem OB.start (w : World) (ao : Option Addr) (n cap : Nat) : OB w (w.alloc (.cells #[.slice ao n cap] 24)) ao n cap := ⟨heap_alloc_new _ _, one_newU _ _⟩
theorem OB.fr {w W W' : World} {ao : Option Addr} {n cap : Nat} {S : Nat → Prop} (h : OB w W ao n cap) (f : Fr W W' S) (hS : ∀ k, S k → w.heap.size + 1 ≤ k) : OB w W' ao n cap :=
  ⟨(f.block _ (Array.getElem?_eq_some_iff.1 h.box).1 (fun e => by have := hS _ e; omega)).trans h.box, h.low.trans (f.below h.low.size (fun k e => by have := hS k e; omega))⟩
theorem OB.lt {w W : World} {ao : Option Addr} {n cap : Nat} (h : OB w W ao n cap) : w.heap.size + 1 ≤ W.heap.size := (Array.getElem?_eq_some_iff.1 h.box).1
theorem chk_bdU (G : List Vx) : chk G = 0 ∨ chk G = 30 ∨ chk G = 31 := by
  unfold chk
  split
  · simp
  · split <;> simp
/-- A row of one's own, as it is read. -/
theorem UO.at_ {w : World} {base : Nat} {ao : Option Addr} {n c : Nat} {L : List Mu} (h : UO w base (.slice ao n c) L) : UsAt w (fun k => base ≤ k) ao L ∧ n = L.length := by
  rcases h.2 with ⟨h1, h2⟩ | ⟨g, cap, cur, h1, hb, hg, hn, hc, hcs, ht⟩
  · cases h1
    exact ⟨fun hl => by omega, h2.symm⟩
  · cases h1
    exact ⟨fun _ => ⟨g, 0, rfl, hb, fun j hj => by rw [Nat.zero_add]; exact UO.cells h hj⟩, rfl⟩
end Go.Proofs.Ythnhmhjcpdomcaa
end

section
/- Region 14 of MutOrders: two requests of the document's, in boxes of their own. -/
namespace Go.Proofs.Ythnhmhjcpdomcaa
open Go.RowKit Go.Sort
abbrev aggU (x : Mu) : Value := .agg #[.int .i64 x.k, .int .i64 x.i, .int .i64 x.t, .int .i64 x.v]
abbrev boxU (x : Mu) : Obj := .cells #[.int .i64 x.k, .int .i64 x.i, .int .i64 x.t, .int .i64 x.v] 45 (0, 0)
theorem RO.at_ {w : World} {base : Nat} {v : Value} {L : List Mu} (h : RO w base v L) (hl : 0 < L.length) : ∃ g c, v = .slice (some ⟨g, 0, none⟩) L.length c ∧ base ≤ g ∧ ∀ j (hj : j < L.length), UC w g (j * 4) L[j] := by
  rcases h.2 with ⟨h1, h2⟩ | ⟨g, cap, cur, h1, hb, _⟩
  · omega
  · refine ⟨g, cap, h1, hb, fun j hj => ?_⟩
    subst h1
    have hc : ∀ i u, (L.flatMap muCells)[i]? = some u → w.cell? ⟨g, i, none⟩ = some u := fun i u hu => by
      have := World.ownsRow.cells h (g := g) rfl i u hu
      rwa [Addr.add_lit, Nat.zero_add] at this
    obtain ⟨a0, a1, a2, a3⟩ := cellsU_get L j hj
    exact ⟨hc _ _ a0, hc _ _ a1, hc _ _ a2, hc _ _ a3⟩
def RowU (W : World) (g : Nat) (L : List Mu) : Prop := ∀ j (hj : j < L.length), UC W g (j * 4) L[j]
/-- What holds behind whatever has come up. -/
structure J14 (W0 : World) (bo : Option Addr) (cap2 : Nat) (L : List Mu) (q : Nat) (p1 p2 : Mu) (on : Nat → Prop) (X : Nat → Value) (W : World) (g1 g2 e1 e2 c1 c2 : Nat) (y1 y2 : Mu) : Prop where
  low : Below W0.heap.size W0 W
  x75 : on 0 → X 75 = .slice bo L.length cap2
  x76 : on 1 → X 76 = .slice (some ⟨g1, 0, none⟩) L.length c1
  x77 : on 2 → X 77 = .int .i64 q
  x78 : on 3 → X 78 = .int .i64 ((q : Int) - 1)
  x79 : on 4 → X 79 = .pointer (some ⟨g1, (q - 1) * 4, none⟩)
  x80 : on 5 → X 80 = aggU p1
  x81 : on 6 → X 81 = .slice bo L.length cap2
  x82 : on 7 → X 82 = .slice (some ⟨g2, 0, none⟩) L.length c2
  x83 : on 8 → X 83 = .int .i64 q
  x84 : on 9 → X 84 = .pointer (some ⟨g2, q * 4, none⟩)
  x85 : on 10 → X 85 = aggU p2
  x11 : on 11 → X 11 = .pointer (some ⟨e1, 0, none⟩)
  x12 : on 12 → X 12 = .pointer (some ⟨e2, 0, none⟩)
  r1 : on 1 → RowU W g1 L
  r2 : on 7 → RowU W g2 L
  b1 : on 11 → W.heap[e1]? = some (boxU y1)
  b2 : on 12 → W.heap[e2]? = some (boxU y2)
  l1 : on 11 → W0.heap.size ≤ e1
  l2 : on 12 → W0.heap.size ≤ e2
  s1 : on 13 → y1 = p1
  s2 : on 14 → y2 = p2
  d11 : on 1 → on 11 → g1 ≠ e1
  d12 : on 1 → on 12 → g1 ≠ e2
  d21 : on 7 → on 11 → g2 ≠ e1
  d22 : on 7 → on 12 → g2 ≠ e2
  dee : on 11 → on 12 → e1 ≠ e2
  c41 : on 4 → on 1
  c97 : on 9 → on 7
  c13 : on 13 → on 11
  c14 : on 14 → on 12
theorem blk_setU {w : World} {g i : Nat} {cs : Array Value} {t : TypeId} (v : Value) (h : w.heap[g]? = some (.cells cs t (0, 0))) : (w.setCell ⟨g, i, none⟩ v).heap[g]? = some (.cells (cs.setIfInBounds i v) t (0, 0)) := by
  have hlt := lt_of_block h
  have h' : w.heap[g] = .cells cs t (0, 0) := by simpa [Array.getElem?_eq_getElem hlt] using h
  show (w.heap.modify g _)[g]? = _
  rw [Array.getElem?_eq_getElem (by simpa using hlt), Array.getElem_modify_self, h']
  rfl
theorem mset4U {w : World} {g : Nat} {t : TypeId} {a0 a1 a2 a3 : Value} (b0 b1 b2 b3 : Value) (h : w.heap[g]? = some (.cells #[a0, a1, a2, a3] t (0, 0))) : ((((w.setCell ⟨g, 0, none⟩ b0).setCell ⟨g, 1, none⟩ b1).setCell ⟨g, 2, none⟩ b2).setCell ⟨g, 3, none⟩ b3).heap[g]? = some (.cells #[b0, b1, b2, b3] t (0, 0)) := by
  have h1 : (w.setCell ⟨g, 0, none⟩ b0).heap[g]? = some (.cells #[b0, a1, a2, a3] t (0, 0)) := blk_setU b0 h
  have h2 : ((w.setCell ⟨g, 0, none⟩ b0).setCell ⟨g, 1, none⟩ b1).heap[g]? = some (.cells #[b0, b1, a2, a3] t (0, 0)) := blk_setU b1 h1
  have h3 : (((w.setCell ⟨g, 0, none⟩ b0).setCell ⟨g, 1, none⟩ b1).setCell ⟨g, 2, none⟩ b2).heap[g]? = some (.cells #[b0, b1, b2, a3] t (0, 0)) := blk_setU b2 h2
  exact blk_setU b3 h3
theorem fs4U (w : World) (g : Nat) (b0 b1 b2 b3 : Value) : Fr w ((((w.setCell ⟨g, 0, none⟩ b0).setCell ⟨g, 1, none⟩ b1).setCell ⟨g, 2, none⟩ b2).setCell ⟨g, 3, none⟩ b3) (fun k => k = g) :=
  (((Fr.setCell (S := fun k => k = g) w ⟨g, 0, none⟩ b0 rfl).trans (Fr.setCell (S := fun k => k = g) _ ⟨g, 1, none⟩ b1 rfl) (fun _ _ h => h)).trans (Fr.setCell (S := fun k => k = g) _ ⟨g, 2, none⟩ b2 rfl) (fun _ _ h => h)).trans (Fr.setCell (S := fun k => k = g) _ ⟨g, 3, none⟩ b3 rfl) (fun _ _ h => h)
theorem cellU4 {w : World} {g : Nat} {y : Mu} (h : w.heap[g]? = some (boxU y)) : w.cell? ⟨g, 0, none⟩ = some (.int .i64 y.k) ∧ w.cell? ⟨g, 1, none⟩ = some (.int .i64 y.i) ∧ w.cell? ⟨g, 2, none⟩ = some (.int .i64 y.t) ∧ w.cell? ⟨g, 3, none⟩ = some (.int .i64 y.v) := by simp [World.cell?, h]
theorem softU4 {w : World} {g : Nat} {y : Mu} (h : w.heap[g]? = some (boxU y)) : w.frozen? ⟨g, 0, none⟩ = false ∧ w.frozen? ⟨g, 1, none⟩ = false ∧ w.frozen? ⟨g, 2, none⟩ = false ∧ w.frozen? ⟨g, 3, none⟩ = false := by simp [World.frozen?, h]
set_option maxRecDepth 100000 in
set_option maxHeartbeats 4000000 in
theorem mord_r14 {W0 : World} {A : Act} {P : Nat → Prop} {bo : Option Addr} {cap2 : Nat} {L : List Mu} {q : Nat} {K : Act → World → Prop} {Q' : Exit → Act → World → Prop}
    (hsz : A.tmps.size = 153) (hA1 : A.eval (.tmp 1) = .slice bo L.length cap2) (hA10 : A.eval (.tmp 10) = .int .i64 q) (hq1 : 1 ≤ q) (hq : q < L.length) (hl : L.length ≤ 60) (HL : ∀ W, Below W0.heap.size W0 W → UsAt W P bo L)
    (HK : ∀ X W e1 e2, X 11 = .pointer (some ⟨e1, 0, none⟩) → X 12 = .pointer (some ⟨e2, 0, none⟩) → W.heap[e1]? = some (boxU (L[q - 1]'(by omega))) → W.heap[e2]? = some (boxU L[q]) → W0.heap.size ≤ e1 → W0.heap.size ≤ e2 → Below W0.heap.size W0 W → K (puts A X [11, 12, 75, 76, 77, 78, 79, 80, 81, 82, 83, 84, 85]) W) :
    Code.wp Try.prog ((Try.f5.body.bind (regionJ 14)).getD .skip) (Exit.then K Q') A W0 := by
  obtain ⟨p1, hp1⟩ : ∃ p, L[q - 1]'(by omega) = p := ⟨_, rfl⟩
  obtain ⟨p2, hp2⟩ : ∃ p, L[q] = p := ⟨_, rfl⟩
  simp only [hp1, hp2] at HK
  have hin : ∀ {X : Nat → Value} {k : Nat}, k ∈ [11, 12, 75, 76, 77, 78, 79, 80, 81, 82, 83, 84, 85] → (puts A X [11, 12, 75, 76, 77, 78, 79, 80, 81, 82, 83, 84, 85]).eval (.tmp k) = X k := fun hk => eval_in hk (by
    rw [hsz]; revert hk; simp only [List.mem_cons, List.not_mem_nil, or_false]; omega)
  have hout : ∀ {X : Nat → Value} {k : Nat}, k ∉ [11, 12, 75, 76, 77, 78, 79, 80, 81, 82, 83, 84, 85] → (puts A X [11, 12, 75, 76, 77, 78, 79, 80, 81, 82, 83, 84, 85]).eval (.tmp k) = A.eval (.tmp k) := fun hk => eval_out hk
  generalize hds : [11, 12, 75, 76, 77, 78, 79, 80, 81, 82, 83, 84, 85] = ds at *
  conv => arg 2; whnf
  refine wp_region_J ds (fun on X W => ∃ g1 g2 e1 e2 c1 c2 y1 y2, J14 W0 bo cap2 L q p1 p2 on X W g1 g2 e1 e2 c1 c2 y1 y2) (by kernel_rfl) (by kernel_rfl) ?start ?steps ?done
  case start =>
    refine ⟨0, 0, 0, 0, 0, 0, ⟨0, 0, 0, 0⟩, ⟨0, 0, 0, 0⟩, ?_⟩
    constructor
    · exact ⟨rfl, rfl, rfl, Nat.le_refl _, fun _ _ => rfl⟩
    all_goals exact fun h => h.elim
  case done =>
    rintro on X W ⟨g1, g2, e1, e2, c1, c2, y1, y2, hJ⟩ hall
    have h1 := hJ.b1 (hall 11 (by decide))
    have h2 := hJ.b2 (hall 12 (by decide))
    rw [hJ.s1 (hall 13 (by decide))] at h1
    rw [hJ.s2 (hall 14 (by decide))] at h2
    exact HK X W e1 e2 (hJ.x11 (hall 11 (by decide))) (hJ.x12 (hall 12 (by decide))) h1 h2 (hJ.l1 (hall 11 (by decide))) (hJ.l2 (hall 12 (by decide))) hJ.low
  case steps =>
    refine ⟨?_, ?_, ?_, ?_, ?_, ?_, ?_, ?_, ?_, ?_, ?_, ?_, ?_, ?_, ?_, trivial⟩
    all_goals rintro on X W ⟨g1, g2, e1, e2, c1, c2, y1, y2, hJ⟩ hn hd
    · have h0 := hout (X := X) (k := 1) (by rw [← hds]; decide)
      rw [hA1] at h0
      refine op_value (v := .slice bo L.length cap2) (w' := W) ?_ ?_
      · generalize (puts A X ds).eval = ρ at h0 ⊢
        go_simp
      · exact ⟨upd X 75 (.slice bo L.length cap2), puts_put _ (by rw [← hds]; decide), g1, g2, e1, e2, c1, c2, y1, y2, ⟨hJ.low, fun _ => rfl, fun h => hJ.x76 (h.resolve_left (by decide)), fun h => hJ.x77 (h.resolve_left (by decide)), fun h => hJ.x78 (h.resolve_left (by decide)), fun h => hJ.x79 (h.resolve_left (by decide)), fun h => hJ.x80 (h.resolve_left (by decide)), fun h => hJ.x81 (h.resolve_left (by decide)), fun h => hJ.x82 (h.resolve_left (by decide)), fun h => hJ.x83 (h.resolve_left (by decide)), fun h => hJ.x84 (h.resolve_left (by decide)), fun h => hJ.x85 (h.resolve_left (by decide)), fun h => hJ.x11 (h.resolve_left (by decide)), fun h => hJ.x12 (h.resolve_left (by decide)), fun h => hJ.r1 (h.resolve_left (by decide)), fun h => hJ.r2 (h.resolve_left (by decide)), fun h => hJ.b1 (h.resolve_left (by decide)), fun h => hJ.b2 (h.resolve_left (by decide)), fun h => hJ.l1 (h.resolve_left (by decide)), fun h => hJ.l2 (h.resolve_left (by decide)), fun h => hJ.s1 (h.resolve_left (by decide)), fun h => hJ.s2 (h.resolve_left (by decide)), fun h h2 => hJ.d11 (h.resolve_left (by decide)) (h2.resolve_left (by decide)), fun h h2 => hJ.d12 (h.resolve_left (by decide)) (h2.resolve_left (by decide)), fun h h2 => hJ.d21 (h.resolve_left (by decide)) (h2.resolve_left (by decide)), fun h h2 => hJ.d22 (h.resolve_left (by decide)) (h2.resolve_left (by decide)), fun h h2 => hJ.dee (h.resolve_left (by decide)) (h2.resolve_left (by decide)), fun h => .inr (hJ.c41 (h.resolve_left (by decide))), fun h => .inr (hJ.c97 (h.resolve_left (by decide))), fun h => .inr (hJ.c13 (h.resolve_left (by decide))), fun h => .inr (hJ.c14 (h.resolve_left (by decide)))⟩⟩
    · have h0 := hin (X := X) (k := 75) (by rw [← hds]; decide)
      rw [hJ.x75 (hd 0 (by kernel_rfl))] at h0
      have hf : (puts A X ds).eval (.func 18) = .func (.func 18) #[] #[] := rfl
      refine op_call (f := 18) (vs := #[.slice bo L.length cap2]) ?_ ?_
      · generalize (puts A X ds).eval = ρ at h0 hf ⊢
        go_simp
      · refine (refU_any L cap2 (HL W hJ.low) (by omega)).mono ?_
        rintro r W' ⟨v, rfl, hR, hb⟩
        obtain ⟨g, c, rfl, hg, hcs⟩ := hR.at_ (by omega)
        exact ⟨_, rfl, upd X 76 (.slice (some ⟨g, 0, none⟩) L.length c), puts_put _ (by rw [← hds]; decide), g, g2, e1, e2, c, c2, y1, y2, ⟨hJ.low.trans (hb.mono hJ.low.size), fun h => hJ.x75 (h.resolve_left (by decide)), fun _ => rfl, fun h => hJ.x77 (h.resolve_left (by decide)), fun h => hJ.x78 (h.resolve_left (by decide)), fun h => absurd (hJ.c41 (h.resolve_left (by decide))) hn, fun h => hJ.x80 (h.resolve_left (by decide)), fun h => hJ.x81 (h.resolve_left (by decide)), fun h => hJ.x82 (h.resolve_left (by decide)), fun h => hJ.x83 (h.resolve_left (by decide)), fun h => hJ.x84 (h.resolve_left (by decide)), fun h => hJ.x85 (h.resolve_left (by decide)), fun h => hJ.x11 (h.resolve_left (by decide)), fun h => hJ.x12 (h.resolve_left (by decide)), fun _ j hj => hcs j hj, fun h j hj => (hJ.r2 (h.resolve_left (by decide)) j hj).new hb, fun h => (hb.block _ (lt_of_block (hJ.b1 (h.resolve_left (by decide))))).trans (hJ.b1 (h.resolve_left (by decide))), fun h => (hb.block _ (lt_of_block (hJ.b2 (h.resolve_left (by decide))))).trans (hJ.b2 (h.resolve_left (by decide))), fun h => hJ.l1 (h.resolve_left (by decide)), fun h => hJ.l2 (h.resolve_left (by decide)), fun h => hJ.s1 (h.resolve_left (by decide)), fun h => hJ.s2 (h.resolve_left (by decide)), fun _ h => by have := lt_of_block (hJ.b1 (h.resolve_left (by decide))); omega, fun _ h => by have := lt_of_block (hJ.b2 (h.resolve_left (by decide))); omega, fun h h2 => hJ.d21 (h.resolve_left (by decide)) (h2.resolve_left (by decide)), fun h h2 => hJ.d22 (h.resolve_left (by decide)) (h2.resolve_left (by decide)), fun h h2 => hJ.dee (h.resolve_left (by decide)) (h2.resolve_left (by decide)), fun h => .inr (hJ.c41 (h.resolve_left (by decide))), fun h => .inr (hJ.c97 (h.resolve_left (by decide))), fun h => .inr (hJ.c13 (h.resolve_left (by decide))), fun h => .inr (hJ.c14 (h.resolve_left (by decide)))⟩⟩
    · have h0 := hout (X := X) (k := 10) (by rw [← hds]; decide)
      rw [hA10] at h0
      refine op_value (v := .int .i64 q) (w' := W) ?_ ?_
      · generalize (puts A X ds).eval = ρ at h0 ⊢
        go_simp
      · exact ⟨upd X 77 (.int .i64 q), puts_put _ (by rw [← hds]; decide), g1, g2, e1, e2, c1, c2, y1, y2, ⟨hJ.low, fun h => hJ.x75 (h.resolve_left (by decide)), fun h => hJ.x76 (h.resolve_left (by decide)), fun _ => rfl, fun h => hJ.x78 (h.resolve_left (by decide)), fun h => hJ.x79 (h.resolve_left (by decide)), fun h => hJ.x80 (h.resolve_left (by decide)), fun h => hJ.x81 (h.resolve_left (by decide)), fun h => hJ.x82 (h.resolve_left (by decide)), fun h => hJ.x83 (h.resolve_left (by decide)), fun h => hJ.x84 (h.resolve_left (by decide)), fun h => hJ.x85 (h.resolve_left (by decide)), fun h => hJ.x11 (h.resolve_left (by decide)), fun h => hJ.x12 (h.resolve_left (by decide)), fun h => hJ.r1 (h.resolve_left (by decide)), fun h => hJ.r2 (h.resolve_left (by decide)), fun h => hJ.b1 (h.resolve_left (by decide)), fun h => hJ.b2 (h.resolve_left (by decide)), fun h => hJ.l1 (h.resolve_left (by decide)), fun h => hJ.l2 (h.resolve_left (by decide)), fun h => hJ.s1 (h.resolve_left (by decide)), fun h => hJ.s2 (h.resolve_left (by decide)), fun h h2 => hJ.d11 (h.resolve_left (by decide)) (h2.resolve_left (by decide)), fun h h2 => hJ.d12 (h.resolve_left (by decide)) (h2.resolve_left (by decide)), fun h h2 => hJ.d21 (h.resolve_left (by decide)) (h2.resolve_left (by decide)), fun h h2 => hJ.d22 (h.resolve_left (by decide)) (h2.resolve_left (by decide)), fun h h2 => hJ.dee (h.resolve_left (by decide)) (h2.resolve_left (by decide)), fun h => .inr (hJ.c41 (h.resolve_left (by decide))), fun h => .inr (hJ.c97 (h.resolve_left (by decide))), fun h => .inr (hJ.c13 (h.resolve_left (by decide))), fun h => .inr (hJ.c14 (h.resolve_left (by decide)))⟩⟩
    · have h0 := hin (X := X) (k := 77) (by rw [← hds]; decide)
      rw [hJ.x77 (hd 2 (by kernel_rfl))] at h0
      have hk : (puts A X ds).eval (.const (.int .i64 1)) = .int .i64 1 := rfl
      refine op_value (v := .int .i64 ((q : Int) - 1)) (w' := W) ?_ ?_
      · generalize (puts A X ds).eval = ρ at h0 hk ⊢
        have hw : IntKind.i64.wrap ((q : Int) - 1) = (q : Int) - 1 := IntWalk.i64_in _ (by omega)
        go_simp
      · exact ⟨upd X 78 (.int .i64 ((q : Int) - 1)), puts_put _ (by rw [← hds]; decide), g1, g2, e1, e2, c1, c2, y1, y2, ⟨hJ.low, fun h => hJ.x75 (h.resolve_left (by decide)), fun h => hJ.x76 (h.resolve_left (by decide)), fun h => hJ.x77 (h.resolve_left (by decide)), fun _ => rfl, fun h => hJ.x79 (h.resolve_left (by decide)), fun h => hJ.x80 (h.resolve_left (by decide)), fun h => hJ.x81 (h.resolve_left (by decide)), fun h => hJ.x82 (h.resolve_left (by decide)), fun h => hJ.x83 (h.resolve_left (by decide)), fun h => hJ.x84 (h.resolve_left (by decide)), fun h => hJ.x85 (h.resolve_left (by decide)), fun h => hJ.x11 (h.resolve_left (by decide)), fun h => hJ.x12 (h.resolve_left (by decide)), fun h => hJ.r1 (h.resolve_left (by decide)), fun h => hJ.r2 (h.resolve_left (by decide)), fun h => hJ.b1 (h.resolve_left (by decide)), fun h => hJ.b2 (h.resolve_left (by decide)), fun h => hJ.l1 (h.resolve_left (by decide)), fun h => hJ.l2 (h.resolve_left (by decide)), fun h => hJ.s1 (h.resolve_left (by decide)), fun h => hJ.s2 (h.resolve_left (by decide)), fun h h2 => hJ.d11 (h.resolve_left (by decide)) (h2.resolve_left (by decide)), fun h h2 => hJ.d12 (h.resolve_left (by decide)) (h2.resolve_left (by decide)), fun h h2 => hJ.d21 (h.resolve_left (by decide)) (h2.resolve_left (by decide)), fun h h2 => hJ.d22 (h.resolve_left (by decide)) (h2.resolve_left (by decide)), fun h h2 => hJ.dee (h.resolve_left (by decide)) (h2.resolve_left (by decide)), fun h => .inr (hJ.c41 (h.resolve_left (by decide))), fun h => .inr (hJ.c97 (h.resolve_left (by decide))), fun h => .inr (hJ.c13 (h.resolve_left (by decide))), fun h => .inr (hJ.c14 (h.resolve_left (by decide)))⟩⟩
    · have h0 := hin (X := X) (k := 76) (by rw [← hds]; decide)
      rw [hJ.x76 (hd 1 (by kernel_rfl))] at h0
      have h1 := hin (X := X) (k := 78) (by rw [← hds]; decide)
      rw [hJ.x78 (hd 3 (by kernel_rfl))] at h1
      refine op_value (v := .pointer (some ⟨g1, (q - 1) * 4, none⟩)) (w' := W) ?_ ?_
      · generalize (puts A X ds).eval = ρ at h0 h1 ⊢
        have hq0 : ((q : Int) - 1).toNat = q - 1 := by omega
        have hq2 : ¬ (L.length : Int) ≤ (q : Int) - 1 := by omega
        have hq3 : (1 : Int) ≤ (q : Int) := by omega
        go_simp
      · exact ⟨upd X 79 (.pointer (some ⟨g1, (q - 1) * 4, none⟩)), puts_put _ (by rw [← hds]; decide), g1, g2, e1, e2, c1, c2, y1, y2, ⟨hJ.low, fun h => hJ.x75 (h.resolve_left (by decide)), fun h => hJ.x76 (h.resolve_left (by decide)), fun h => hJ.x77 (h.resolve_left (by decide)), fun h => hJ.x78 (h.resolve_left (by decide)), fun _ => rfl, fun h => hJ.x80 (h.resolve_left (by decide)), fun h => hJ.x81 (h.resolve_left (by decide)), fun h => hJ.x82 (h.resolve_left (by decide)), fun h => hJ.x83 (h.resolve_left (by decide)), fun h => hJ.x84 (h.resolve_left (by decide)), fun h => hJ.x85 (h.resolve_left (by decide)), fun h => hJ.x11 (h.resolve_left (by decide)), fun h => hJ.x12 (h.resolve_left (by decide)), fun h => hJ.r1 (h.resolve_left (by decide)), fun h => hJ.r2 (h.resolve_left (by decide)), fun h => hJ.b1 (h.resolve_left (by decide)), fun h => hJ.b2 (h.resolve_left (by decide)), fun h => hJ.l1 (h.resolve_left (by decide)), fun h => hJ.l2 (h.resolve_left (by decide)), fun h => hJ.s1 (h.resolve_left (by decide)), fun h => hJ.s2 (h.resolve_left (by decide)), fun h h2 => hJ.d11 (h.resolve_left (by decide)) (h2.resolve_left (by decide)), fun h h2 => hJ.d12 (h.resolve_left (by decide)) (h2.resolve_left (by decide)), fun h h2 => hJ.d21 (h.resolve_left (by decide)) (h2.resolve_left (by decide)), fun h h2 => hJ.d22 (h.resolve_left (by decide)) (h2.resolve_left (by decide)), fun h h2 => hJ.dee (h.resolve_left (by decide)) (h2.resolve_left (by decide)), fun _ => .inr (hd 1 (by kernel_rfl)), fun h => .inr (hJ.c97 (h.resolve_left (by decide))), fun h => .inr (hJ.c13 (h.resolve_left (by decide))), fun h => .inr (hJ.c14 (h.resolve_left (by decide)))⟩⟩
    · have h0 := hin (X := X) (k := 79) (by rw [← hds]; decide)
      rw [hJ.x79 (hd 4 (by kernel_rfl))] at h0
      have hc := hJ.r1 (hJ.c41 (hd 4 (by kernel_rfl))) (q - 1) (by omega)
      rw [hp1] at hc
      obtain ⟨f0, f1, f2, f3⟩ := hc
      refine op_value (v := aggU p1) (w' := W) ?_ ?_
      · generalize (puts A X ds).eval = ρ at h0 ⊢
        go_simp
      · exact ⟨upd X 80 (aggU p1), puts_put _ (by rw [← hds]; decide), g1, g2, e1, e2, c1, c2, y1, y2, ⟨hJ.low, fun h => hJ.x75 (h.resolve_left (by decide)), fun h => hJ.x76 (h.resolve_left (by decide)), fun h => hJ.x77 (h.resolve_left (by decide)), fun h => hJ.x78 (h.resolve_left (by decide)), fun h => hJ.x79 (h.resolve_left (by decide)), fun _ => rfl, fun h => hJ.x81 (h.resolve_left (by decide)), fun h => hJ.x82 (h.resolve_left (by decide)), fun h => hJ.x83 (h.resolve_left (by decide)), fun h => hJ.x84 (h.resolve_left (by decide)), fun h => hJ.x85 (h.resolve_left (by decide)), fun h => hJ.x11 (h.resolve_left (by decide)), fun h => hJ.x12 (h.resolve_left (by decide)), fun h => hJ.r1 (h.resolve_left (by decide)), fun h => hJ.r2 (h.resolve_left (by decide)), fun h => hJ.b1 (h.resolve_left (by decide)), fun h => hJ.b2 (h.resolve_left (by decide)), fun h => hJ.l1 (h.resolve_left (by decide)), fun h => hJ.l2 (h.resolve_left (by decide)), fun h => hJ.s1 (h.resolve_left (by decide)), fun h => hJ.s2 (h.resolve_left (by decide)), fun h h2 => hJ.d11 (h.resolve_left (by decide)) (h2.resolve_left (by decide)), fun h h2 => hJ.d12 (h.resolve_left (by decide)) (h2.resolve_left (by decide)), fun h h2 => hJ.d21 (h.resolve_left (by decide)) (h2.resolve_left (by decide)), fun h h2 => hJ.d22 (h.resolve_left (by decide)) (h2.resolve_left (by decide)), fun h h2 => hJ.dee (h.resolve_left (by decide)) (h2.resolve_left (by decide)), fun h => .inr (hJ.c41 (h.resolve_left (by decide))), fun h => .inr (hJ.c97 (h.resolve_left (by decide))), fun h => .inr (hJ.c13 (h.resolve_left (by decide))), fun h => .inr (hJ.c14 (h.resolve_left (by decide)))⟩⟩
    · have h0 := hout (X := X) (k := 1) (by rw [← hds]; decide)
      rw [hA1] at h0
      refine op_value (v := .slice bo L.length cap2) (w' := W) ?_ ?_
      · generalize (puts A X ds).eval = ρ at h0 ⊢
        go_simp
      · exact ⟨upd X 81 (.slice bo L.length cap2), puts_put _ (by rw [← hds]; decide), g1, g2, e1, e2, c1, c2, y1, y2, ⟨hJ.low, fun h => hJ.x75 (h.resolve_left (by decide)), fun h => hJ.x76 (h.resolve_left (by decide)), fun h => hJ.x77 (h.resolve_left (by decide)), fun h => hJ.x78 (h.resolve_left (by decide)), fun h => hJ.x79 (h.resolve_left (by decide)), fun h => hJ.x80 (h.resolve_left (by decide)), fun _ => rfl, fun h => hJ.x82 (h.resolve_left (by decide)), fun h => hJ.x83 (h.resolve_left (by decide)), fun h => hJ.x84 (h.resolve_left (by decide)), fun h => hJ.x85 (h.resolve_left (by decide)), fun h => hJ.x11 (h.resolve_left (by decide)), fun h => hJ.x12 (h.resolve_left (by decide)), fun h => hJ.r1 (h.resolve_left (by decide)), fun h => hJ.r2 (h.resolve_left (by decide)), fun h => hJ.b1 (h.resolve_left (by decide)), fun h => hJ.b2 (h.resolve_left (by decide)), fun h => hJ.l1 (h.resolve_left (by decide)), fun h => hJ.l2 (h.resolve_left (by decide)), fun h => hJ.s1 (h.resolve_left (by decide)), fun h => hJ.s2 (h.resolve_left (by decide)), fun h h2 => hJ.d11 (h.resolve_left (by decide)) (h2.resolve_left (by decide)), fun h h2 => hJ.d12 (h.resolve_left (by decide)) (h2.resolve_left (by decide)), fun h h2 => hJ.d21 (h.resolve_left (by decide)) (h2.resolve_left (by decide)), fun h h2 => hJ.d22 (h.resolve_left (by decide)) (h2.resolve_left (by decide)), fun h h2 => hJ.dee (h.resolve_left (by decide)) (h2.resolve_left (by decide)), fun h => .inr (hJ.c41 (h.resolve_left (by decide))), fun h => .inr (hJ.c97 (h.resolve_left (by decide))), fun h => .inr (hJ.c13 (h.resolve_left (by decide))), fun h => .inr (hJ.c14 (h.resolve_left (by decide)))⟩⟩
    · have h0 := hin (X := X) (k := 81) (by rw [← hds]; decide)
      rw [hJ.x81 (hd 6 (by kernel_rfl))] at h0
      have hf : (puts A X ds).eval (.func 18) = .func (.func 18) #[] #[] := rfl
      refine op_call (f := 18) (vs := #[.slice bo L.length cap2]) ?_ ?_
      · generalize (puts A X ds).eval = ρ at h0 hf ⊢
        go_simp
      · refine (refU_any L cap2 (HL W hJ.low) (by omega)).mono ?_
        rintro r W' ⟨v, rfl, hR, hb⟩
        obtain ⟨g, c, rfl, hg, hcs⟩ := hR.at_ (by omega)
        exact ⟨_, rfl, upd X 82 (.slice (some ⟨g, 0, none⟩) L.length c), puts_put _ (by rw [← hds]; decide), g1, g, e1, e2, c1, c, y1, y2, ⟨hJ.low.trans (hb.mono hJ.low.size), fun h => hJ.x75 (h.resolve_left (by decide)), fun h => hJ.x76 (h.resolve_left (by decide)), fun h => hJ.x77 (h.resolve_left (by decide)), fun h => hJ.x78 (h.resolve_left (by decide)), fun h => hJ.x79 (h.resolve_left (by decide)), fun h => hJ.x80 (h.resolve_left (by decide)), fun h => hJ.x81 (h.resolve_left (by decide)), fun _ => rfl, fun h => hJ.x83 (h.resolve_left (by decide)), fun h => absurd (hJ.c97 (h.resolve_left (by decide))) hn, fun h => hJ.x85 (h.resolve_left (by decide)), fun h => hJ.x11 (h.resolve_left (by decide)), fun h => hJ.x12 (h.resolve_left (by decide)), fun h j hj => (hJ.r1 (h.resolve_left (by decide)) j hj).new hb, fun _ j hj => hcs j hj, fun h => (hb.block _ (lt_of_block (hJ.b1 (h.resolve_left (by decide))))).trans (hJ.b1 (h.resolve_left (by decide))), fun h => (hb.block _ (lt_of_block (hJ.b2 (h.resolve_left (by decide))))).trans (hJ.b2 (h.resolve_left (by decide))), fun h => hJ.l1 (h.resolve_left (by decide)), fun h => hJ.l2 (h.resolve_left (by decide)), fun h => hJ.s1 (h.resolve_left (by decide)), fun h => hJ.s2 (h.resolve_left (by decide)), fun h h2 => hJ.d11 (h.resolve_left (by decide)) (h2.resolve_left (by decide)), fun h h2 => hJ.d12 (h.resolve_left (by decide)) (h2.resolve_left (by decide)), fun _ h => by have := lt_of_block (hJ.b1 (h.resolve_left (by decide))); omega, fun _ h => by have := lt_of_block (hJ.b2 (h.resolve_left (by decide))); omega, fun h h2 => hJ.dee (h.resolve_left (by decide)) (h2.resolve_left (by decide)), fun h => .inr (hJ.c41 (h.resolve_left (by decide))), fun h => .inr (hJ.c97 (h.resolve_left (by decide))), fun h => .inr (hJ.c13 (h.resolve_left (by decide))), fun h => .inr (hJ.c14 (h.resolve_left (by decide)))⟩⟩
    · have h0 := hout (X := X) (k := 10) (by rw [← hds]; decide)
      rw [hA10] at h0
      refine op_value (v := .int .i64 q) (w' := W) ?_ ?_
      · generalize (puts A X ds).eval = ρ at h0 ⊢
        go_simp
      · exact ⟨upd X 83 (.int .i64 q), puts_put _ (by rw [← hds]; decide), g1, g2, e1, e2, c1, c2, y1, y2, ⟨hJ.low, fun h => hJ.x75 (h.resolve_left (by decide)), fun h => hJ.x76 (h.resolve_left (by decide)), fun h => hJ.x77 (h.resolve_left (by decide)), fun h => hJ.x78 (h.resolve_left (by decide)), fun h => hJ.x79 (h.resolve_left (by decide)), fun h => hJ.x80 (h.resolve_left (by decide)), fun h => hJ.x81 (h.resolve_left (by decide)), fun h => hJ.x82 (h.resolve_left (by decide)), fun _ => rfl, fun h => hJ.x84 (h.resolve_left (by decide)), fun h => hJ.x85 (h.resolve_left (by decide)), fun h => hJ.x11 (h.resolve_left (by decide)), fun h => hJ.x12 (h.resolve_left (by decide)), fun h => hJ.r1 (h.resolve_left (by decide)), fun h => hJ.r2 (h.resolve_left (by decide)), fun h => hJ.b1 (h.resolve_left (by decide)), fun h => hJ.b2 (h.resolve_left (by decide)), fun h => hJ.l1 (h.resolve_left (by decide)), fun h => hJ.l2 (h.resolve_left (by decide)), fun h => hJ.s1 (h.resolve_left (by decide)), fun h => hJ.s2 (h.resolve_left (by decide)), fun h h2 => hJ.d11 (h.resolve_left (by decide)) (h2.resolve_left (by decide)), fun h h2 => hJ.d12 (h.resolve_left (by decide)) (h2.resolve_left (by decide)), fun h h2 => hJ.d21 (h.resolve_left (by decide)) (h2.resolve_left (by decide)), fun h h2 => hJ.d22 (h.resolve_left (by decide)) (h2.resolve_left (by decide)), fun h h2 => hJ.dee (h.resolve_left (by decide)) (h2.resolve_left (by decide)), fun h => .inr (hJ.c41 (h.resolve_left (by decide))), fun h => .inr (hJ.c97 (h.resolve_left (by decide))), fun h => .inr (hJ.c13 (h.resolve_left (by decide))), fun h => .inr (hJ.c14 (h.resolve_left (by decide)))⟩⟩
    · have h0 := hin (X := X) (k := 82) (by rw [← hds]; decide)
      rw [hJ.x82 (hd 7 (by kernel_rfl))] at h0
      have h1 := hin (X := X) (k := 83) (by rw [← hds]; decide)
      rw [hJ.x83 (hd 8 (by kernel_rfl))] at h1
      refine op_value (v := .pointer (some ⟨g2, q * 4, none⟩)) (w' := W) ?_ ?_
      · generalize (puts A X ds).eval = ρ at h0 h1 ⊢
        skip
        go_simp
      · exact ⟨upd X 84 (.pointer (some ⟨g2, q * 4, none⟩)), puts_put _ (by rw [← hds]; decide), g1, g2, e1, e2, c1, c2, y1, y2, ⟨hJ.low, fun h => hJ.x75 (h.resolve_left (by decide)), fun h => hJ.x76 (h.resolve_left (by decide)), fun h => hJ.x77 (h.resolve_left (by decide)), fun h => hJ.x78 (h.resolve_left (by decide)), fun h => hJ.x79 (h.resolve_left (by decide)), fun h => hJ.x80 (h.resolve_left (by decide)), fun h => hJ.x81 (h.resolve_left (by decide)), fun h => hJ.x82 (h.resolve_left (by decide)), fun h => hJ.x83 (h.resolve_left (by decide)), fun _ => rfl, fun h => hJ.x85 (h.resolve_left (by decide)), fun h => hJ.x11 (h.resolve_left (by decide)), fun h => hJ.x12 (h.resolve_left (by decide)), fun h => hJ.r1 (h.resolve_left (by decide)), fun h => hJ.r2 (h.resolve_left (by decide)), fun h => hJ.b1 (h.resolve_left (by decide)), fun h => hJ.b2 (h.resolve_left (by decide)), fun h => hJ.l1 (h.resolve_left (by decide)), fun h => hJ.l2 (h.resolve_left (by decide)), fun h => hJ.s1 (h.resolve_left (by decide)), fun h => hJ.s2 (h.resolve_left (by decide)), fun h h2 => hJ.d11 (h.resolve_left (by decide)) (h2.resolve_left (by decide)), fun h h2 => hJ.d12 (h.resolve_left (by decide)) (h2.resolve_left (by decide)), fun h h2 => hJ.d21 (h.resolve_left (by decide)) (h2.resolve_left (by decide)), fun h h2 => hJ.d22 (h.resolve_left (by decide)) (h2.resolve_left (by decide)), fun h h2 => hJ.dee (h.resolve_left (by decide)) (h2.resolve_left (by decide)), fun h => .inr (hJ.c41 (h.resolve_left (by decide))), fun _ => .inr (hd 7 (by kernel_rfl)), fun h => .inr (hJ.c13 (h.resolve_left (by decide))), fun h => .inr (hJ.c14 (h.resolve_left (by decide)))⟩⟩
    · have h0 := hin (X := X) (k := 84) (by rw [← hds]; decide)
      rw [hJ.x84 (hd 9 (by kernel_rfl))] at h0
      have hc := hJ.r2 (hJ.c97 (hd 9 (by kernel_rfl))) (q) (by omega)
      rw [hp2] at hc
      obtain ⟨f0, f1, f2, f3⟩ := hc
      refine op_value (v := aggU p2) (w' := W) ?_ ?_
      · generalize (puts A X ds).eval = ρ at h0 ⊢
        go_simp
      · exact ⟨upd X 85 (aggU p2), puts_put _ (by rw [← hds]; decide), g1, g2, e1, e2, c1, c2, y1, y2, ⟨hJ.low, fun h => hJ.x75 (h.resolve_left (by decide)), fun h => hJ.x76 (h.resolve_left (by decide)), fun h => hJ.x77 (h.resolve_left (by decide)), fun h => hJ.x78 (h.resolve_left (by decide)), fun h => hJ.x79 (h.resolve_left (by decide)), fun h => hJ.x80 (h.resolve_left (by decide)), fun h => hJ.x81 (h.resolve_left (by decide)), fun h => hJ.x82 (h.resolve_left (by decide)), fun h => hJ.x83 (h.resolve_left (by decide)), fun h => hJ.x84 (h.resolve_left (by decide)), fun _ => rfl, fun h => hJ.x11 (h.resolve_left (by decide)), fun h => hJ.x12 (h.resolve_left (by decide)), fun h => hJ.r1 (h.resolve_left (by decide)), fun h => hJ.r2 (h.resolve_left (by decide)), fun h => hJ.b1 (h.resolve_left (by decide)), fun h => hJ.b2 (h.resolve_left (by decide)), fun h => hJ.l1 (h.resolve_left (by decide)), fun h => hJ.l2 (h.resolve_left (by decide)), fun h => hJ.s1 (h.resolve_left (by decide)), fun h => hJ.s2 (h.resolve_left (by decide)), fun h h2 => hJ.d11 (h.resolve_left (by decide)) (h2.resolve_left (by decide)), fun h h2 => hJ.d12 (h.resolve_left (by decide)) (h2.resolve_left (by decide)), fun h h2 => hJ.d21 (h.resolve_left (by decide)) (h2.resolve_left (by decide)), fun h h2 => hJ.d22 (h.resolve_left (by decide)) (h2.resolve_left (by decide)), fun h h2 => hJ.dee (h.resolve_left (by decide)) (h2.resolve_left (by decide)), fun h => .inr (hJ.c41 (h.resolve_left (by decide))), fun h => .inr (hJ.c97 (h.resolve_left (by decide))), fun h => .inr (hJ.c13 (h.resolve_left (by decide))), fun h => .inr (hJ.c14 (h.resolve_left (by decide)))⟩⟩
    · have hb : Below W.heap.size W (W.alloc (boxU ⟨0, 0, 0, 0⟩)) := one_newU _ _
      refine op_value (v := .pointer (some ⟨W.heap.size, 0, none⟩)) (w' := W.alloc (boxU ⟨0, 0, 0, 0⟩)) ?_ ?_
      · generalize (puts A X ds).eval = ρ
        go_simp
      · exact ⟨upd X 11 (.pointer (some ⟨W.heap.size, 0, none⟩)), puts_put _ (by rw [← hds]; decide), g1, g2, W.heap.size, e2, c1, c2, ⟨0, 0, 0, 0⟩, y2, ⟨hJ.low.trans (hb.mono hJ.low.size), fun h => hJ.x75 (h.resolve_left (by decide)), fun h => hJ.x76 (h.resolve_left (by decide)), fun h => hJ.x77 (h.resolve_left (by decide)), fun h => hJ.x78 (h.resolve_left (by decide)), fun h => hJ.x79 (h.resolve_left (by decide)), fun h => hJ.x80 (h.resolve_left (by decide)), fun h => hJ.x81 (h.resolve_left (by decide)), fun h => hJ.x82 (h.resolve_left (by decide)), fun h => hJ.x83 (h.resolve_left (by decide)), fun h => hJ.x84 (h.resolve_left (by decide)), fun h => hJ.x85 (h.resolve_left (by decide)), fun _ => rfl, fun h => hJ.x12 (h.resolve_left (by decide)), fun h j hj => (hJ.r1 (h.resolve_left (by decide)) j hj).new hb, fun h j hj => (hJ.r2 (h.resolve_left (by decide)) j hj).new hb, fun _ => heap_alloc_new _ _, fun h => (hb.block _ (lt_of_block (hJ.b2 (h.resolve_left (by decide))))).trans (hJ.b2 (h.resolve_left (by decide))), fun _ => hJ.low.size, fun h => hJ.l2 (h.resolve_left (by decide)), fun h => absurd (hJ.c13 (h.resolve_left (by decide))) hn, fun h => hJ.s2 (h.resolve_left (by decide)), fun h _ => by have := lt_cell (hJ.r1 (h.resolve_left (by decide)) 0 (by omega)).1; omega, fun h h2 => hJ.d12 (h.resolve_left (by decide)) (h2.resolve_left (by decide)), fun h _ => by have := lt_cell (hJ.r2 (h.resolve_left (by decide)) 0 (by omega)).1; omega, fun h h2 => hJ.d22 (h.resolve_left (by decide)) (h2.resolve_left (by decide)), fun _ h => by have := lt_of_block (hJ.b2 (h.resolve_left (by decide))); omega, fun h => .inr (hJ.c41 (h.resolve_left (by decide))), fun h => .inr (hJ.c97 (h.resolve_left (by decide))), fun h => .inr (hJ.c13 (h.resolve_left (by decide))), fun h => .inr (hJ.c14 (h.resolve_left (by decide)))⟩⟩
    · have hb : Below W.heap.size W (W.alloc (boxU ⟨0, 0, 0, 0⟩)) := one_newU _ _
      refine op_value (v := .pointer (some ⟨W.heap.size, 0, none⟩)) (w' := W.alloc (boxU ⟨0, 0, 0, 0⟩)) ?_ ?_
      · generalize (puts A X ds).eval = ρ
        go_simp
      · exact ⟨upd X 12 (.pointer (some ⟨W.heap.size, 0, none⟩)), puts_put _ (by rw [← hds]; decide), g1, g2, e1, W.heap.size, c1, c2, y1, ⟨0, 0, 0, 0⟩, ⟨hJ.low.trans (hb.mono hJ.low.size), fun h => hJ.x75 (h.resolve_left (by decide)), fun h => hJ.x76 (h.resolve_left (by decide)), fun h => hJ.x77 (h.resolve_left (by decide)), fun h => hJ.x78 (h.resolve_left (by decide)), fun h => hJ.x79 (h.resolve_left (by decide)), fun h => hJ.x80 (h.resolve_left (by decide)), fun h => hJ.x81 (h.resolve_left (by decide)), fun h => hJ.x82 (h.resolve_left (by decide)), fun h => hJ.x83 (h.resolve_left (by decide)), fun h => hJ.x84 (h.resolve_left (by decide)), fun h => hJ.x85 (h.resolve_left (by decide)), fun h => hJ.x11 (h.resolve_left (by decide)), fun _ => rfl, fun h j hj => (hJ.r1 (h.resolve_left (by decide)) j hj).new hb, fun h j hj => (hJ.r2 (h.resolve_left (by decide)) j hj).new hb, fun h => (hb.block _ (lt_of_block (hJ.b1 (h.resolve_left (by decide))))).trans (hJ.b1 (h.resolve_left (by decide))), fun _ => heap_alloc_new _ _, fun h => hJ.l1 (h.resolve_left (by decide)), fun _ => hJ.low.size, fun h => hJ.s1 (h.resolve_left (by decide)), fun h => absurd (hJ.c14 (h.resolve_left (by decide))) hn, fun h h2 => hJ.d11 (h.resolve_left (by decide)) (h2.resolve_left (by decide)), fun h _ => by have := lt_cell (hJ.r1 (h.resolve_left (by decide)) 0 (by omega)).1; omega, fun h h2 => hJ.d21 (h.resolve_left (by decide)) (h2.resolve_left (by decide)), fun h _ => by have := lt_cell (hJ.r2 (h.resolve_left (by decide)) 0 (by omega)).1; omega, fun h _ => by have := lt_of_block (hJ.b1 (h.resolve_left (by decide))); omega, fun h => .inr (hJ.c41 (h.resolve_left (by decide))), fun h => .inr (hJ.c97 (h.resolve_left (by decide))), fun h => .inr (hJ.c13 (h.resolve_left (by decide))), fun h => .inr (hJ.c14 (h.resolve_left (by decide)))⟩⟩
    · have h0 := hin (X := X) (k := 11) (by rw [← hds]; decide)
      rw [hJ.x11 (hd 11 (by kernel_rfl))] at h0
      have h1 := hin (X := X) (k := 80) (by rw [← hds]; decide)
      rw [hJ.x80 (hd 5 (by kernel_rfl))] at h1
      have f := fs4U W e1 (.int .i64 p1.k) (.int .i64 p1.i) (.int .i64 p1.t) (.int .i64 p1.v)
      have hbx := hJ.b1 (hd 11 (by kernel_rfl))
      refine op_skip (w' := (((W.setCell ⟨e1, 0, none⟩ (.int .i64 p1.k)).setCell ⟨e1, 1, none⟩ (.int .i64 p1.i)).setCell ⟨e1, 2, none⟩ (.int .i64 p1.t)).setCell ⟨e1, 3, none⟩ (.int .i64 p1.v)) ?_ ?_
      · generalize (puts A X ds).eval = ρ at h0 h1 ⊢
        have z0 := cellU4 hbx
        have z1 := softU4 hbx
        obtain ⟨z00, z01, z02, z03⟩ := z0
        obtain ⟨z10, z11, z12, z13⟩ := z1
        go_simp
      · exact ⟨X, rfl, g1, g2, e1, e2, c1, c2, p1, y2, ⟨hJ.low.trans (f.below hJ.low.size (fun k hk => by rw [hk]; exact hJ.l1 (hd 11 (by kernel_rfl)))), fun h => hJ.x75 (h.resolve_left (by decide)), fun h => hJ.x76 (h.resolve_left (by decide)), fun h => hJ.x77 (h.resolve_left (by decide)), fun h => hJ.x78 (h.resolve_left (by decide)), fun h => hJ.x79 (h.resolve_left (by decide)), fun h => hJ.x80 (h.resolve_left (by decide)), fun h => hJ.x81 (h.resolve_left (by decide)), fun h => hJ.x82 (h.resolve_left (by decide)), fun h => hJ.x83 (h.resolve_left (by decide)), fun h => hJ.x84 (h.resolve_left (by decide)), fun h => hJ.x85 (h.resolve_left (by decide)), fun h => hJ.x11 (h.resolve_left (by decide)), fun h => hJ.x12 (h.resolve_left (by decide)), fun h j hj => (hJ.r1 (h.resolve_left (by decide)) j hj).fr f (hJ.d11 (h.resolve_left (by decide)) (hd 11 (by kernel_rfl))), fun h j hj => (hJ.r2 (h.resolve_left (by decide)) j hj).fr f (hJ.d21 (h.resolve_left (by decide)) (hd 11 (by kernel_rfl))), fun _ => mset4U _ _ _ _ (hJ.b1 (hd 11 (by kernel_rfl))), fun h => (f.block _ (lt_of_block (hJ.b2 (h.resolve_left (by decide)))) (fun e => hJ.dee (hd 11 (by kernel_rfl)) (h.resolve_left (by decide)) e.symm)).trans (hJ.b2 (h.resolve_left (by decide))), fun h => hJ.l1 (h.resolve_left (by decide)), fun h => hJ.l2 (h.resolve_left (by decide)), fun _ => rfl, fun h => hJ.s2 (h.resolve_left (by decide)), fun h h2 => hJ.d11 (h.resolve_left (by decide)) (h2.resolve_left (by decide)), fun h h2 => hJ.d12 (h.resolve_left (by decide)) (h2.resolve_left (by decide)), fun h h2 => hJ.d21 (h.resolve_left (by decide)) (h2.resolve_left (by decide)), fun h h2 => hJ.d22 (h.resolve_left (by decide)) (h2.resolve_left (by decide)), fun h h2 => hJ.dee (h.resolve_left (by decide)) (h2.resolve_left (by decide)), fun h => .inr (hJ.c41 (h.resolve_left (by decide))), fun h => .inr (hJ.c97 (h.resolve_left (by decide))), fun _ => .inr (hd 11 (by kernel_rfl)), fun h => .inr (hJ.c14 (h.resolve_left (by decide)))⟩⟩
    · have h0 := hin (X := X) (k := 12) (by rw [← hds]; decide)
      rw [hJ.x12 (hd 12 (by kernel_rfl))] at h0
      have h1 := hin (X := X) (k := 85) (by rw [← hds]; decide)
      rw [hJ.x85 (hd 10 (by kernel_rfl))] at h1
      have f := fs4U W e2 (.int .i64 p2.k) (.int .i64 p2.i) (.int .i64 p2.t) (.int .i64 p2.v)
      have hbx := hJ.b2 (hd 12 (by kernel_rfl))
      refine op_skip (w' := (((W.setCell ⟨e2, 0, none⟩ (.int .i64 p2.k)).setCell ⟨e2, 1, none⟩ (.int .i64 p2.i)).setCell ⟨e2, 2, none⟩ (.int .i64 p2.t)).setCell ⟨e2, 3, none⟩ (.int .i64 p2.v)) ?_ ?_
      · generalize (puts A X ds).eval = ρ at h0 h1 ⊢
        have z0 := cellU4 hbx
        have z1 := softU4 hbx
        obtain ⟨z00, z01, z02, z03⟩ := z0
        obtain ⟨z10, z11, z12, z13⟩ := z1
        go_simp
      · exact ⟨X, rfl, g1, g2, e1, e2, c1, c2, y1, p2, ⟨hJ.low.trans (f.below hJ.low.size (fun k hk => by rw [hk]; exact hJ.l2 (hd 12 (by kernel_rfl)))), fun h => hJ.x75 (h.resolve_left (by decide)), fun h => hJ.x76 (h.resolve_left (by decide)), fun h => hJ.x77 (h.resolve_left (by decide)), fun h => hJ.x78 (h.resolve_left (by decide)), fun h => hJ.x79 (h.resolve_left (by decide)), fun h => hJ.x80 (h.resolve_left (by decide)), fun h => hJ.x81 (h.resolve_left (by decide)), fun h => hJ.x82 (h.resolve_left (by decide)), fun h => hJ.x83 (h.resolve_left (by decide)), fun h => hJ.x84 (h.resolve_left (by decide)), fun h => hJ.x85 (h.resolve_left (by decide)), fun h => hJ.x11 (h.resolve_left (by decide)), fun h => hJ.x12 (h.resolve_left (by decide)), fun h j hj => (hJ.r1 (h.resolve_left (by decide)) j hj).fr f (hJ.d12 (h.resolve_left (by decide)) (hd 12 (by kernel_rfl))), fun h j hj => (hJ.r2 (h.resolve_left (by decide)) j hj).fr f (hJ.d22 (h.resolve_left (by decide)) (hd 12 (by kernel_rfl))), fun h => (f.block _ (lt_of_block (hJ.b1 (h.resolve_left (by decide)))) (fun e => hJ.dee (h.resolve_left (by decide)) (hd 12 (by kernel_rfl)) e)).trans (hJ.b1 (h.resolve_left (by decide))), fun _ => mset4U _ _ _ _ (hJ.b2 (hd 12 (by kernel_rfl))), fun h => hJ.l1 (h.resolve_left (by decide)), fun h => hJ.l2 (h.resolve_left (by decide)), fun h => hJ.s1 (h.resolve_left (by decide)), fun _ => rfl, fun h h2 => hJ.d11 (h.resolve_left (by decide)) (h2.resolve_left (by decide)), fun h h2 => hJ.d12 (h.resolve_left (by decide)) (h2.resolve_left (by decide)), fun h h2 => hJ.d21 (h.resolve_left (by decide)) (h2.resolve_left (by decide)), fun h h2 => hJ.d22 (h.resolve_left (by decide)) (h2.resolve_left (by decide)), fun h h2 => hJ.dee (h.resolve_left (by decide)) (h2.resolve_left (by decide)), fun h => .inr (hJ.c41 (h.resolve_left (by decide))), fun h => .inr (hJ.c97 (h.resolve_left (by decide))), fun h => .inr (hJ.c13 (h.resolve_left (by decide))), fun _ => .inr (hd 12 (by kernel_rfl))⟩⟩
end Go.Proofs.Ythnhmhjcpdomcaa
end
