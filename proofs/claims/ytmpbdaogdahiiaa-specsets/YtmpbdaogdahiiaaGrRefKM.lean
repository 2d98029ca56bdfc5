import Derived.Test.YtmpbdaogdahiiaaSpFrM
import Derived.Scope
import Derived.Test.YtmpbdaogdahiiaaGrWalk2M
import Derived.Test.YtmpbdaogdahiiaaGrSameM
import Derived.Test.YtmpbdaogdahiiaaGrThereM
section
/- spec.Far at the way of two edges. -/
namespace Go.Proofs.Ytmpbdaogdahiiaa
open Go.RowKit Go.Shelf
attribute [local go_sem] Oper.semAt_some
/-- A block of truths, of one's own. -/
def SB (W : World) (m : Nat) (L : List Bool) : Prop := W.heap[m]? = some (.cells (L.map Value.bool).toArray 4 (0, 0))
theorem SB.lt {W : World} {m : Nat} {L : List Bool} (h : SB W m L) : m < W.heap.size := lt_of_block h
theorem SB.cell {W : World} {m : Nat} {L : List Bool} (h : SB W m L) {j : Nat} (hj : j < L.length) : W.cell? ⟨m, j, none⟩ = some (.bool L[j]) ∧ W.frozen? ⟨m, j, none⟩ = false := by
  unfold SB at h
  constructor
  · simp [World.cell?, h, hj]
  · simp [World.frozen?, h]
theorem SB.set {W : World} {m : Nat} {L : List Bool} (h : SB W m L) (j : Nat) (x : Bool) : SB (W.setCell ⟨m, j, none⟩ (.bool x)) m (L.set j x) := by
  unfold SB at h ⊢
  rw [set_heap h, List.setIfInBounds_toArray, List.map_set]
theorem SB.kept {W W' : World} {m : Nat} {L : List Bool} {S : Nat → Prop} (h : SB W m L) (f : Fr W W' S) (hs : ¬ S m) : SB W' m L := (f.block m h.lt hs).trans h
def farL : Nat → List Int
  | 0 => [0, 0, 0]
  | 1 => [-1, 0, 0]
  | 2 => [-1, -1, 0]
  | _ => [-1, -1, -1]
theorem rise123 : Rise [1, 2, 3] := by
  intro j h
  match j, h with
  | 0, _ => simp
  | 1, _ => simp
  | j + 2, h => simp at h; omega
/-- The rows that are made, as lists. -/
theorem made_eq (v : Value) (n : Nat) : madeCells #[v] n = (List.replicate n v).toArray := by
  apply Array.ext
  · rw [size_madeCells]; simp
  · intro i h1 h2
    simp [madeCells, Nat.mod_one]
theorem ib_made {W : World} {g : Nat} (h : W.heap[g]? = some (.cells (madeCells #[.int .i64 0] 3) 2 (0, 0))) : IB W g [0, 0, 0] := by
  rw [made_eq] at h
  exact h
theorem sb_made {W : World} {g : Nat} (h : W.heap[g]? = some (.cells (madeCells #[.bool false] 3) 4 (0, 0))) : SB W g [false, false, false] := by
  rw [made_eq] at h
  exact h
theorem farL_len (k : Nat) : (farL k).length = 3 := by
  match k with
  | 0 => rfl
  | 1 => rfl
  | 2 => rfl
  | _ + 3 => rfl
theorem farL_set {k : Nat} (h : k < 3) : (farL k).set k (-1) = farL (k + 1) := by
  match k, h with
  | 0, _ => rfl
  | 1, _ => rfl
  | 2, _ => rfl
/-- The loop's states: behind j rounds. -/
def wayF : Nat → List Int
  | 0 => [-1, -1, -1]
  | 1 => [0, -1, -1]
  | 2 => [0, 5, -1]
  | _ => [0, 5, 7]
def wayS : Nat → List Bool
  | 0 => [false, false, false]
  | 1 => [true, false, false]
  | 2 => [true, true, false]
  | _ => [true, true, true]
def wayD : Nat → Int
  | 0 => 0
  | 1 => 5
  | _ => 7
def wayO : Nat → List Ed
  | 0 => [⟨1, 5⟩]
  | 1 => [⟨2, 2⟩]
  | _ => []
/-- The queue: empty, or one stop. -/
def QO (W : World) (qb base : Nat) (q : Option (Nat × Int)) : Prop := ∃ v, W.heap[qb]? = some (.cells #[v] 107 (0, 0)) ∧ match q with
  | none => W.ownsRow base 105 2 v 0 []
  | some (i, d) => W.ownsRow base 105 2 v 1 [.int .i64 (i : Int), .int .i64 d]
def wayQ (j : Nat) : Option (Nat × Int) := if j < 3 then some (j, wayD j) else none
structure FaS (w3 W : World) (mf ms qb base : Nat) (F : List Int) (S : List Bool) (q : Option (Nat × Int)) : Prop where
  low : Below w3.heap.size w3 W
  fi : IB W mf F
  si : SB W ms S
  qi : QO W qb base q
  lf : w3.heap.size ≤ mf ∧ mf < base
  ls : w3.heap.size ≤ ms ∧ ms < base
  lq : base ≤ qb
  lb : base ≤ W.heap.size
theorem QO.kept {W W' : World} {qb base : Nat} {q : Option (Nat × Int)} {S : Nat → Prop} (h : QO W qb base q) (f : Fr W W' S) (hs : ∀ k, base ≤ k → k < W.heap.size → ¬ S k) (hq : base ≤ qb) : QO W' qb base q := by
  obtain ⟨v, h1, h2⟩ := h
  refine ⟨v, (f.block qb (lt_of_block h1) (hs _ hq (lt_of_block h1))).trans h1, ?_⟩
  cases q with
  | none => exact so_fr h2 f (fun k hk => hs k (World.ownsRow.lt h2 k hk).1 (World.ownsRow.lt h2 k hk).2)
  | some p => exact so_fr h2 f (fun k hk => hs k (World.ownsRow.lt h2 k hk).1 (World.ownsRow.lt h2 k hk).2)
theorem FaS.new {w3 W W' : World} {mf ms qb base : Nat} {F : List Int} {S : List Bool} {q : Option (Nat × Int)} (h : FaS w3 W mf ms qb base F S q) (hb : Below W.heap.size W W') : FaS w3 W' mf ms qb base F S q :=
  ⟨h.low.trans (hb.mono h.low.size), h.fi.new hb, h.si.kept (Fr.ofBelow hb (fun _ => False)) (fun h => h), h.qi.kept (Fr.ofBelow hb (fun _ => False)) (fun _ _ _ h => h) h.lq, h.lf, h.ls, h.lq, Nat.le_trans h.lb hb.size⟩
/-- The queue changes. -/
theorem FaS.queue {w3 W W' : World} {mf ms qb base : Nat} {F : List Int} {S : List Bool} {q q' : Option (Nat × Int)} {T : Nat → Prop} (h : FaS w3 W mf ms qb base F S q) (f : Fr W W' T) (hT : ∀ k, T k → base ≤ k) (hq : QO W' qb base q') : FaS w3 W' mf ms qb base F S q' := by
  have h1 := h.lf
  have h2 := h.ls
  exact ⟨h.low.trans (f.below h.low.size (fun k hk => by have := hT k hk; omega)), h.fi.kept f (fun e => by have := hT _ e; omega), h.si.kept f (fun e => by have := hT _ e; omega), hq, h.lf, h.ls, h.lq, Nat.le_trans h.lb f.size⟩
def ftV : Option Value → Nat
  | some (.bool false) => 1
  | _ => 0
def muW (W : World) (ms : Nat) : Nat := ftV (W.cell? ⟨ms, 0, none⟩) + ftV (W.cell? ⟨ms, 1, none⟩) + ftV (W.cell? ⟨ms, 2, none⟩)
theorem muW_way {W : World} {ms j : Nat} (h : SB W ms (wayS j)) (hj : j ≤ 3) : muW W ms = 3 - j := by
  unfold muW
  match j, hj with
  | 0, _ => rw [(SB.cell h (j := 0) (by decide)).1, (SB.cell h (j := 1) (by decide)).1, (SB.cell h (j := 2) (by decide)).1]; rfl
  | 1, _ => rw [(SB.cell h (j := 0) (by decide)).1, (SB.cell h (j := 1) (by decide)).1, (SB.cell h (j := 2) (by decide)).1]; rfl
  | 2, _ => rw [(SB.cell h (j := 0) (by decide)).1, (SB.cell h (j := 1) (by decide)).1, (SB.cell h (j := 2) (by decide)).1]; rfl
  | 3, _ => rw [(SB.cell h (j := 0) (by decide)).1, (SB.cell h (j := 1) (by decide)).1, (SB.cell h (j := 2) (by decide)).1]; rfl
theorem wayS_at {j : Nat} (h : j < 3) : ∃ hh : j < (wayS j).length, (wayS j)[j] = false := by
  match j, h with
  | 0, _ => exact ⟨by decide, rfl⟩
  | 1, _ => exact ⟨by decide, rfl⟩
  | 2, _ => exact ⟨by decide, rfl⟩
theorem wayF_at {j : Nat} (h : j < 3) : j < (wayF j).length := by
  match j, h with
  | 0, _ => decide
  | 1, _ => decide
  | 2, _ => decide
theorem way_set {j : Nat} (h : j < 3) : (wayF j).set j (wayD j) = wayF (j + 1) ∧ (wayS j).set j true = wayS (j + 1) := by
  match j, h with
  | 0, _ => exact ⟨rfl, rfl⟩
  | 1, _ => exact ⟨rfl, rfl⟩
  | 2, _ => exact ⟨rfl, rfl⟩
theorem way_row {j k : Nat} (h : k < (wayO j).length) : k = 0 ∧ (wayO j).length = 1 ∧ (wayO j)[k].t = ((j + 1 : Nat) : Int) ∧ wayD j + (wayO j)[k].w = wayD (j + 1) ∧ (0 ≤ (wayO j)[k].w ∧ (wayO j)[k].w ≤ 100) ∧ (0 ≤ wayD j ∧ wayD j ≤ 100) ∧ wayQ (j + 1) = some (j + 1, wayD (j + 1)) := by
  match j, k, h with
  | 0, 0, _ => exact ⟨rfl, rfl, rfl, rfl, by simp [wayO], by decide, rfl⟩
  | 1, 0, _ => exact ⟨rfl, rfl, rfl, rfl, by simp [wayO], by decide, rfl⟩
  | 0, k + 1, h => simp [wayO] at h
  | 1, k + 1, h => simp [wayO] at h
  | j + 2, k, h => simp [wayO] at h
theorem way_end {j : Nat} (h : j < 3) : (if (wayO j).length = 0 then none else wayQ (j + 1)) = wayQ (j + 1) := by
  match j, h with
  | 0, _ => rfl
  | 1, _ => rfl
  | 2, _ => rfl
theorem way_out {j : Nat} (h : j < 3) : ∃ hh : j < ([[⟨1, 5⟩], [⟨2, 2⟩], []] : List (List Ed)).length, ([[⟨1, 5⟩], [⟨2, 2⟩], []] : List (List Ed))[j] = wayO j := by
  match j, h with
  | 0, _ => exact ⟨by decide, rfl⟩
  | 1, _ => exact ⟨by decide, rfl⟩
  | 2, _ => exact ⟨by decide, rfl⟩
theorem noGoto_ret {Q : Exit → Act → World → Prop} {a : Act} {w : World} (h : Q .ret a w) : Exit.noGoto Q .ret a w := h
theorem infoBo : (Try.prog.info? 4).map (fun i => (i.zero, i.size, i.bytes)) = some (some (.bool false), 1, 1) := by kernel_rfl
set_option maxRecDepth 100000 in
set_option maxHeartbeats 8000000 in
theorem far_way {w : World} {P : Nat → Prop} {ao : Option Addr} (cap : Nat) (G : List Vx) (hG : G.length = 3) (h : VxAt w P ao G) (hok : ∀ v ∈ G, v.ok) (hi : ids G = [1, 2, 3]) (hth : thereE G = true) (he : (evs G).length ≤ 2048) (hO : (foldW (ids G) 3 (evs G)).1 = [[⟨1, 5⟩], [⟨2, 2⟩], []]) :
    Calls Try.prog 30 #[.agg #[.slice ao 3 cap], .int .i64 1, .bool false] w fun r w' => (∃ m, r = .returned (.tuple #[.slice (some ⟨m, 0, none⟩) 3 3, .int .i64 0]) ∧ IB w' m [0, 5, 7]) ∧ Below w.heap.size w w' := by
  have hR : Rise [1, 2, 3] := rise123
  have HWv : Hid (∀ W, Below w.heap.size w W → Calls Try.prog 31 #[.agg #[.slice ao 3 cap]] W fun r w' => (∃ gi ci g1 g2 B, r = .returned (.agg #[.slice (some ⟨gi, 0, none⟩) 3 ci, .slice (some ⟨g1, 0, none⟩) 3 3, .slice (some ⟨g2, 0, none⟩) 3 3]) ∧ WebAt w' W.heap.size gi ci g1 g2 B 3 [1, 2, 3] [[⟨1, 5⟩], [⟨2, 2⟩], []] ((foldW (ids G) 3 (evs G)).2.map nearL)) ∧ Below W.heap.size W w') := fun W hb => by
    have := weave_any cap (h.new hb) hok (by rw [hi]; exact hR) hth (by omega) he
    rw [hG, hO, hi] at this
    rw [hi]
    exact this
  obtain ⟨i0, hii, hz0, hz1, hz2⟩ := info_parts infoSI
  obtain ⟨ib, hib, hy0, hy1, hy2⟩ := info_parts infoBo
  have hm1 : ∀ W : World, (Instr.makeSlice 36 (.int .i64 ((3 : Nat) : Int)) (.int .i64 ((3 : Nat) : Int))).run Try.prog W = .ok (.slice (some ⟨W.heap.size, 0, none⟩) 3 3) (W.alloc (.cells (madeCells #[.int .i64 0] 3) 2)) := fun W => by
    have := run_make (P := Try.prog) W 36 2 i0 (.int .i64 0) Try.underlying36 hii hz0 .i64 .i64 ((3 : Nat) : Int) ((3 : Nat) : Int) (by omega) (by omega) (by rw [hz2]; omega) (by omega)
    simpa [hz1, Value.cells] using this
  have hm2 : ∀ W : World, (Instr.makeSlice 78 (.int .i64 ((3 : Nat) : Int)) (.int .i64 ((3 : Nat) : Int))).run Try.prog W = .ok (.slice (some ⟨W.heap.size, 0, none⟩) 3 3) (W.alloc (.cells (madeCells #[.bool false] 3) 4)) := fun W => by
    have := run_make (P := Try.prog) W 78 4 ib (.bool false) Try.underlying78 hib hy0 .i64 .i64 ((3 : Nat) : Int) ((3 : Nat) : Int) (by omega) (by omega) (by rw [hy2]; omega) (by omega)
    simpa [hy1, Value.cells] using this
  have HM1 : Hid _ := hm1
  have HM2 : Hid _ := hm2
  clear h hok hi hth he hO hG hm1 hm2
  go_enter Try.func30, Try.ntmps30
  go_wp2
  refine wp_scope_straight ?_
  go_upto_region 2 with (go_at_call 31; refine (HWv.out _ (one_new _ _)).mono ?_; rintro r w1 ⟨⟨gi, ci, g1, g2, B, rfl, hw1⟩, hb1⟩)
  generalize hW2 : World.alloc w1 _ = W2
  have b2 : Below w1.heap.size w1 W2 := by rw [← hW2]; exact one_new _ _
  have k2 : W2.heap[w1.heap.size]? = some (.cells #[.slice (some ⟨gi, 0, none⟩) 3 ci, .slice (some ⟨g1, 0, none⟩) 3 3, .slice (some ⟨g2, 0, none⟩) 3 3] 76 (0, 0)) := by rw [← hW2]; exact heap_alloc_new _ _
  have hw2 := hw1.new b2
  have HW2 : Hid _ := hw2
  obtain ⟨d0, d1, d2⟩ := box3 k2
  obtain ⟨wb, hwb⟩ : ∃ wb, w1.heap.size = wb := ⟨_, rfl⟩
  have HBe : Hid (Below w.heap.size w W2) := ((one_new w _).trans (hb1.mono (by rw [World.size_alloc]; omega))).trans (b2.mono (by have := hb1.size; rw [World.size_alloc] at this; omega))
  rw [hwb] at d0 d1 d2 k2 ⊢
  have HK2 : Hid _ := k2
  clear hW2 b2 hw1 hb1 hw2 HWv
  go_upto_region 5 with (go_at_call 50; refine (place_any (L := [1, 2, 3]) 1 (HW2.out.idr) hR (by decide)).mono ?_; rintro r w3 ⟨rfl, hb3⟩; rw [show foundB [1, 2, 3] 1 = true by decide, show findN [1, 2, 3] 1 = 0 by decide])
  have HW3 : Hid _ := HW2.out.new hb3
  have HK3 : Hid _ := (hb3.block _ (lt_of_block HK2.out)).trans HK2.out
  have e0 := (box3 HK3.out).1
  have HB3 : Hid (Below w.heap.size w w3) := HBe.out.trans (hb3.mono HBe.out.size)
  clear HW2 HK2 HBe d0 d1 d2 k2 hb3
  refine far_r5 (wb := wb) (gi := gi) (n := 3) (ci := ci) rfl rfl e0 HM1.out HM2.out ?_
  rintro X W4 hb4 ⟨⟨mf, hx11, hf4, hlf⟩, ⟨ms, hx12, hs4, hls⟩⟩
  have HF4 : Hid (IB W4 mf [0, 0, 0]) := ib_made hf4
  have HS4 : Hid (SB W4 ms [false, false, false]) := sb_made hs4
  have hne : mf ≠ ms := fun e => by rw [e, hs4] at hf4; injection hf4 with e1; injection e1 with _ e2 _; exact absurd e2 (by decide)
  have HB4 : Hid (Below w.heap.size w W4) := HB3.out.trans (hb4.mono HB3.out.size)
  have HBw : Hid (Below w3.heap.size w3 W4) := hb4
  clear hf4 hs4 hb4 HM1 HM2 e0
  simp only [puts]
  rw [hx11, hx12]
  generalize X 30 = x30
  generalize X 31 = x31
  generalize X 32 = x32
  generalize X 33 = x33
  generalize X 34 = x34
  generalize X 35 = x35
  generalize X 36 = x36
  generalize X 37 = x37
  simp only [Act.put, List.setIfInBounds_toArray, List.set_cons_succ, List.set_cons_zero]
  clear hx11 hx12
  go_wp2
  go_loopw [13, 40] (fun _ i wr => ∃ k : Nat, k ≤ 3 ∧ i = .int .i64 k ∧ Hid (IB wr mf (farL k)) ∧ Hid (Fr W4 wr (fun q => q = mf))) (fun _ i _ => 3 - (intOf i).toNat)
  case atStart => exact ⟨0, Nat.zero_le _, rfl, HF4.out, Fr.refl _ _⟩
  case round =>
    obtain ⟨k, hk, rfl, HI, HF⟩ := hrel
    by_cases hlt : k < 3
    · have hkl : k < (farL k).length := by rw [farL_len]; exact hlt
      obtain ⟨c0, c1⟩ := IB.cell HI.out hkl
      generalize (farL k)[k] = y at c0
      go_wp2
      generalize hW5 : World.setCell wr _ _ = W5
      have HI5 : Hid (IB W5 mf (farL (k + 1))) := by rw [← farL_set hlt, ← hW5]; exact IB.set HI.out _ _
      have HF5 : Hid (Fr W4 W5 (fun q => q = mf)) := by rw [← hW5]; exact HF.out.trans (Fr.setCell (S := fun q => q = mf) _ _ _ rfl) (fun _ _ h => h)
      go_roundw
      case rel => exact ⟨k + 1, by omega, by go_num, HI5, HF5⟩
      case measure => simp [intOf]; omega
    · obtain rfl : k = 3 := by omega
      go_wp2
      refine wp_label ?_
      have hsz4 := HBw.out.size
      have hszr := HF.out.size
      have lmf := IB.lt HF4.out
      have lms := SB.lt HS4.out
      have hnq : True := trivial
      generalize hW6 : World.alloc (World.alloc wr _) _ = W6
      obtain ⟨base, hbs⟩ : ∃ base, wr.heap.size = base := ⟨_, rfl⟩
      have HFS : Hid (FaS w3 W6 mf ms (base + 1) base (wayF 0) (wayS 0) (wayQ 0)) := by
        have b1 := one_new wr (.cells #[.int .i64 0, .int .i64 0] 105)
        have b2 := one_new (wr.alloc (.cells #[.int .i64 0, .int .i64 0] 105)) (.cells #[.slice (some ⟨wr.heap.size, 0, none⟩) 1 1] 107)
        have bb := b1.trans (b2.mono b1.size)
        rw [hW6] at b2 bb
        have lw : Below w3.heap.size w3 wr := HBw.out.trans (HF.out.below hsz4 (fun k hk => by omega))
        refine ⟨lw.trans (bb.mono lw.size), IB.new HI.out bb, SB.kept (SB.kept HS4.out HF.out (fun e => hne e.symm)) (Fr.ofBelow bb (fun _ => False)) (fun h => h), ?_, ⟨hlf, by omega⟩, ⟨hls, by omega⟩, by omega, by rw [← hbs]; exact bb.size⟩
        have h1 : W6.heap[base]? = some (.cells #[.int .i64 0, .int .i64 0] 105 (0, 0)) := by
          rw [← hbs]
          exact (b2.block _ (by rw [World.size_alloc]; omega)).trans (heap_alloc_new _ _)
        have h2 : W6.heap[base + 1]? = some (.cells #[.slice (some ⟨base, 0, none⟩) 1 1] 107 (0, 0)) := by
          have := heap_alloc_new (wr.alloc (.cells #[.int .i64 0, .int .i64 0] 105)) (.cells #[.slice (some ⟨wr.heap.size, 0, none⟩) 1 1] 107)
          rw [hW6, World.size_alloc, hbs] at this
          exact this
        exact ⟨_, h2, rfl, .inr ⟨base, 1, _, rfl, Nat.le_refl _, h1, Nat.le_refl _, by unfold maxLen; omega, rfl, rfl⟩⟩
      rw [hbs]
      obtain ⟨qb, hqb⟩ : ∃ qb, base + 1 = qb := ⟨_, rfl⟩
      rw [hqb] at HFS ⊢
      clear hW6 HI HF hbs hsz4 hszr lmf lms HF4 HS4 hnq
      go_wp2
      go_loopw [15, 17, 18, 19] (fun _ _ _ _ wr => ∃ j : Nat, j ≤ 3 ∧ Hid (FaS w3 wr mf ms qb base (wayF j) (wayS j) (wayQ j))) (fun _ _ _ _ wr => muW wr ms)
      case atStart => exact ⟨0, by decide, HFS⟩
      case round =>
        obtain ⟨j, hj, HS⟩ := hrel
        by_cases hlt : j < 3
        · obtain ⟨v, hq, ho⟩ := HS.out.qi
          have hwq : wayQ j = some (j, wayD j) := by unfold wayQ; rw [if_pos hlt]
          rw [hwq] at ho
          dsimp only at ho
          obtain ⟨g, cp, cur, rfl, hcp, hblk, htk⟩ := own_blk ho (by decide)
          have c0 : cur.toArray[0]? = some (.int .i64 (j : Int)) := by
            have : (cur.take (1 * 2))[0]? = some (.int .i64 (j : Int)) := by rw [htk]; rfl
            rw [List.getElem?_take] at this
            simpa using this
          have c1 : cur.toArray[1]? = some (.int .i64 (wayD j)) := by
            have : (cur.take (1 * 2))[1]? = some (.int .i64 (wayD j)) := by rw [htk]; rfl
            rw [List.getElem?_take] at this
            simpa using this
          have b0 := cell_of_one hq
          have HQ : Hid _ := hq
          have HBl : Hid _ := hblk
          have HC0 : Hid _ := c0
          have HC1 : Hid _ := c1
          obtain ⟨dj, hdj⟩ : ∃ dj, wayD j = dj := ⟨_, rfl⟩
          have ta := fun t w' => ta_stop (.int .i64 (j : Int)) (.int .i64 dj) t w'
          clear hq ho hblk htk c0 c1
          go_upto_region 14 with (first
            | (go_at_call 51; refine (len_any).mono ?_; rintro r w5 ⟨rfl, rfl⟩)
            | (go_at_call 52; refine (hpop_one HQ.out HBl.out.heap HC0.out HC1.out hcp).mono ?_; rw [hdj]; rintro r w6 ⟨rfl, hq6, f6⟩))
          generalize hW7 : World.alloc w6 _ = W7
          have f6' : FaS w3 w6 mf ms qb base (wayF j) (wayS j) none := by
            refine FaS.queue HS.out f6 (fun k hk => by subst hk; exact HS.out.lq) ⟨_, hq6, ?_⟩
            have hgq : g ≠ qb := fun e => by have h1 := HBl.out.heap; rw [e, HQ.out] at h1; injection h1 with e1; injection e1 with _ e2 _; exact absurd e2 (by decide)
            have hb6 : Blk w6 base 105 2 g cp cur := ⟨HBl.out.low, (f6.block g HBl.out.lt hgq).trans HBl.out.heap, HBl.out.max, HBl.out.size⟩
            have := hb6.own (n := 0) (Nat.zero_le _)
            simpa using this
          have b7 : Below w6.heap.size w6 W7 := by rw [← hW7]; exact one_new _ _
          have HS7 : Hid (FaS w3 W7 mf ms qb base (wayF j) (wayS j) none) := f6'.new b7
          obtain ⟨sb, hsb⟩ : ∃ sb, w6.heap.size = sb := ⟨_, rfl⟩
          have hlb6 : base ≤ sb := by rw [← hsb]; exact f6'.lb
          have HSb : Hid (W7.heap[sb]? = some (.cells #[.int .i64 (j : Int), .int .i64 dj] 105 (0, 0))) := by rw [← hsb, ← hW7]; exact heap_alloc_new _ _
          rw [hsb]
          have hmu := muW_way HS.out.si hj
          clear hW7 b7 f6 hq6 HQ HBl HC0 HC1 HS b0 f6'
          obtain ⟨s0, s1⟩ := box2 HSb.out
          have hji : (j : Int) < 3 := by omega
          have hjn : ¬ (3 ≤ j) := by omega
          obtain ⟨hsl, hsf⟩ := wayS_at hlt
          obtain ⟨z0, z1⟩ := SB.cell HS7.out.si hsl
          rw [hsf] at z0
          go_upto_region 15 with (fail)
          obtain ⟨y0, y1⟩ := IB.cell HS7.out.fi (wayF_at hlt)
          generalize (wayF j)[j]'(wayF_at hlt) = yy at y0
          obtain ⟨Wd, hWd⟩ : ∃ Wd, W7.drew = Wd := ⟨_, rfl⟩
          have bd : Below W7.heap.size W7 Wd := by rw [← hWd]; exact Below.drew (Below.refl _ _)
          have HSd : Hid (FaS w3 Wd mf ms qb base (wayF j) (wayS j) none) := HS7.out.new bd
          have HSbd : Hid (Wd.heap[sb]? = _) := (bd.block _ (lt_of_block HSb.out)).trans HSb.out
          have m0 := (bd.cell (p := ⟨mf, j, none⟩) (lt_cell y0)).trans y0
          have m1 : Wd.frozen? ⟨mf, j, none⟩ = false := (IB.cell HSd.out.fi (wayF_at hlt)).2
          have hmf := HSd.out.lf
          have hms := HSd.out.ls
          have hS0 : (fun w' : World => w'.cell? ⟨sb, 0, none⟩ = some (.int .i64 (j : Int)) ∧ w'.cell? ⟨sb, 1, none⟩ = some (.int .i64 dj)) Wd := box2 HSbd.out
          refine wp_calm ?_
          refine wp_region_L [11] (fun w' : World => w'.cell? ⟨sb, 0, none⟩ = some (.int .i64 (j : Int)) ∧ w'.cell? ⟨sb, 1, none⟩ = some (.int .i64 dj)) (by kernel_rfl) ?_
          rw [hWd]
          clear hWd bd HS7 HSb s0 s1 y0 y1
          refine wpAnyL_take (i := 0) 65 (v := .slice (some ⟨mf, 0, none⟩) 3 3) rfl rfl (by kernel_rfl) (by kernel_rfl) (by kernel_rfl) (by kernel_rfl) (by kernel_rfl) (by kernel_rfl) (fun _ _ _ h => h) hS0 (by rfl) (by intro w' hSw; (try dsimp only at hSw); obtain ⟨hSa, hSb⟩ := hSw; go_simp <;> with_reducible rfl) ?_
          simp only [Act.put, List.setIfInBounds_toArray, List.set_cons_zero, List.set_cons_succ]
          refine wpAnyL_take (i := 1) 66 (v := .pointer (some ⟨sb, 0, none⟩)) rfl rfl (by kernel_rfl) (by kernel_rfl) (by kernel_rfl) (by kernel_rfl) (by kernel_rfl) (by kernel_rfl) (fun _ _ _ h => h) hS0 (by rfl) (by intro w' hSw; (try dsimp only at hSw); obtain ⟨hSa, hSb⟩ := hSw; go_simp <;> with_reducible rfl) ?_
          simp only [Act.put, List.setIfInBounds_toArray, List.set_cons_zero, List.set_cons_succ]
          refine wpAnyL_take (i := 2) 67 (v := .int .i64 (j : Int)) rfl rfl (by kernel_rfl) (by kernel_rfl) (by kernel_rfl) (by kernel_rfl) (by kernel_rfl) (by kernel_rfl) (fun _ _ _ h => h) hS0 (by rfl) (by intro w' hSw; (try dsimp only at hSw); obtain ⟨hSa, hSb⟩ := hSw; go_simp <;> with_reducible rfl) ?_
          simp only [Act.put, List.setIfInBounds_toArray, List.set_cons_zero, List.set_cons_succ]
          refine wpAnyL_take (i := 3) 68 (v := .slice (some ⟨ms, 0, none⟩) 3 3) rfl rfl (by kernel_rfl) (by kernel_rfl) (by kernel_rfl) (by kernel_rfl) (by kernel_rfl) (by kernel_rfl) (fun _ _ _ h => h) hS0 (by rfl) (by intro w' hSw; (try dsimp only at hSw); obtain ⟨hSa, hSb⟩ := hSw; go_simp <;> with_reducible rfl) ?_
          simp only [Act.put, List.setIfInBounds_toArray, List.set_cons_zero, List.set_cons_succ]
          refine wpAnyL_take (i := 4) 69 (v := .pointer (some ⟨sb, 0, none⟩)) rfl rfl (by kernel_rfl) (by kernel_rfl) (by kernel_rfl) (by kernel_rfl) (by kernel_rfl) (by kernel_rfl) (fun _ _ _ h => h) hS0 (by rfl) (by intro w' hSw; (try dsimp only at hSw); obtain ⟨hSa, hSb⟩ := hSw; go_simp <;> with_reducible rfl) ?_
          simp only [Act.put, List.setIfInBounds_toArray, List.set_cons_zero, List.set_cons_succ]
          refine wpAnyL_take (i := 5) 70 (v := .int .i64 (j : Int)) rfl rfl (by kernel_rfl) (by kernel_rfl) (by kernel_rfl) (by kernel_rfl) (by kernel_rfl) (by kernel_rfl) (fun _ _ _ h => h) hS0 (by rfl) (by intro w' hSw; (try dsimp only at hSw); obtain ⟨hSa, hSb⟩ := hSw; go_simp <;> with_reducible rfl) ?_
          simp only [Act.put, List.setIfInBounds_toArray, List.set_cons_zero, List.set_cons_succ]
          refine wpAnyL_take (i := 6) 71 (v := .pointer (some ⟨sb, 1, none⟩)) rfl rfl (by kernel_rfl) (by kernel_rfl) (by kernel_rfl) (by kernel_rfl) (by kernel_rfl) (by kernel_rfl) (fun _ _ _ h => h) hS0 (by rfl) (by intro w' hSw; (try dsimp only at hSw); obtain ⟨hSa, hSb⟩ := hSw; go_simp <;> with_reducible rfl) ?_
          simp only [Act.put, List.setIfInBounds_toArray, List.set_cons_zero, List.set_cons_succ]
          refine wpAnyL_take (i := 7) 72 (v := .int .i64 dj) rfl rfl (by kernel_rfl) (by kernel_rfl) (by kernel_rfl) (by kernel_rfl) (by kernel_rfl) (by kernel_rfl) (fun _ _ _ h => h) hS0 (by rfl) (by intro w' hSw; (try dsimp only at hSw); obtain ⟨hSa, hSb⟩ := hSw; go_simp <;> with_reducible rfl) ?_
          simp only [Act.put, List.setIfInBounds_toArray, List.set_cons_zero, List.set_cons_succ]
          refine wpAnyL_one (i := 8) (by kernel_rfl) rfl (fun Ka hKa => ?_)
          go_simp
          refine hKa.out _ _ (fun _ => hS0) ?_
          clear hKa Ka
          try simp only [Act.put, List.setIfInBounds_toArray, List.set_cons_zero, List.set_cons_succ]
          refine wpAnyL_one (i := 9) (by kernel_rfl) rfl (fun Kb hKb => ?_)
          go_simp
          generalize hV8 : World.setCell Wd _ _ = V8
          have f8 : Fr Wd V8 (fun k => k = mf) := by rw [← hV8]; exact Fr.setCell _ _ _ rfl
          have HI8 : Hid (IB V8 mf ((wayF j).set j dj)) := by rw [← hV8]; exact IB.set HSd.out.fi _ _
          have HS8 : Hid (SB V8 ms (wayS j)) := SB.kept HSd.out.si f8 (fun e => hne e.symm)
          have HQ8 : Hid (QO V8 qb base none) := HSd.out.qi.kept f8 (fun k hk _ e => by omega) HSd.out.lq
          have HB8 : Hid (V8.heap[sb]? = _) := (f8.block _ (lt_of_block HSbd.out) (fun e => by omega)).trans HSbd.out
          have hS1 : (fun w' : World => w'.cell? ⟨sb, 0, none⟩ = some (.int .i64 (j : Int)) ∧ w'.cell? ⟨sb, 1, none⟩ = some (.int .i64 dj)) V8 := box2 HB8.out
          obtain ⟨n0, n1⟩ := SB.cell HS8.out hsl
          rw [hsf] at n0
          refine hKb.out _ _ (fun _ => hS1) ?_
          clear hKb Kb hV8 m0 m1
          try simp only [Act.put, List.setIfInBounds_toArray, List.set_cons_zero, List.set_cons_succ]
          refine wpAnyL_one (i := 10) (by kernel_rfl) rfl (fun Kc hKc => ?_)
          go_simp
          refine hKc.out _ _ (fun _ => hS1) ?_
          clear hKc Kc
          try simp only [Act.put, List.setIfInBounds_toArray, List.set_cons_zero, List.set_cons_succ]
          refine wpAnyL_one (i := 11) (by kernel_rfl) rfl (fun Kd hKd => ?_)
          go_simp
          refine hKd.out _ _ (fun h => absurd h (Bool.eq_false_iff.1 (by kernel_rfl))) ?_
          clear hKd Kd
          refine wpAnyL_done (by kernel_rfl) ?_ _
          generalize hV9 : World.setCell V8 _ _ = V9
          have f9 : Fr V8 V9 (fun k => k = ms) := by rw [← hV9]; exact Fr.setCell _ _ _ rfl
          have HS9 : Hid (FaS w3 V9 mf ms qb base (wayF (j + 1)) (wayS (j + 1)) none) := by
            rw [← (way_set hlt).1, ← (way_set hlt).2, hdj]
            have l8 := HSd.out.low.trans (f8.below HSd.out.low.size (fun k hk => by omega))
            have hs8 := f8.size
            have hs9 := f9.size
            exact ⟨l8.trans (f9.below l8.size (fun k hk => by omega)), IB.kept HI8.out f9 hne, by rw [← hV9]; exact SB.set HS8.out _ _, QO.kept HQ8.out f9 (fun k hk _ e => by omega) HSd.out.lq, hmf, hms, HSd.out.lq, by have := HSd.out.lb; omega⟩
          have HB9 : Hid (V9.heap[sb]? = _) := (f9.block _ (lt_of_block HB8.out) (fun e => by omega)).trans HB8.out
          clear hV9 f9 f8 HI8 HS8 HQ8 HB8 hS1 hS0 n0 n1 HSd HSbd z0 z1
          obtain ⟨hoj, hoe⟩ := way_out hlt
          obtain ⟨vs, hM⟩ := HW3.out.om
          obtain ⟨u, hu, cu, fu, ou⟩ := hM.at_ hoj
          rw [hoe] at ou
          obtain ⟨pr, cr, rfl⟩ : ∃ p c, u = .slice p (wayO j).length c := by
            rcases ou.2 with ⟨e1, e2⟩ | ⟨g, cap, cur, e1, _⟩
            · exact ⟨none, 0, by rw [e2]; exact e1⟩
            · exact ⟨_, _, e1⟩
          have HOu : Hid (w3.ownsRow B 111 2 (.slice pr (wayO j).length cr) (wayO j).length ((wayO j).flatMap encA2)) := ou
          have k1 := (HS9.out.low.cell (p := ⟨g1, j, none⟩) (lt_cell cu)).trans cu
          obtain ⟨e0, e1, e2⟩ := box3 ((HS9.out.low.block _ (lt_of_block HK3.out)).trans HK3.out)
          obtain ⟨q0, q1⟩ := box2 HB9.out
          clear hM hu cu fu ou
          go_wp2
          go_loopw [17, 18, 19, 82] (fun _ _ _ i wr => ∃ k : Nat, k ≤ (wayO j).length ∧ i = .int .i64 k ∧ Hid (FaS w3 wr mf ms qb base (wayF (j + 1)) (wayS (j + 1)) (if k = 0 then none else wayQ (j + 1))) ∧ Hid (k = 0 → wr.heap[sb]? = some (.cells #[.int .i64 (j : Int), .int .i64 dj] 105 (0, 0)))) (fun _ _ _ i _ => (wayO j).length - (intOf i).toNat)
          case atStart => exact ⟨0, Nat.zero_le _, rfl, HS9.out, fun _ => HB9.out⟩
          case round =>
            obtain ⟨k, hk, rfl, HSk, HBk'⟩ := hrel
            by_cases hlk : k < (wayO j).length
            · obtain ⟨hk0, hl1, ht, hdy, hyy, hdd, hqq'⟩ := way_row hlk
              have HBk : Hid (wr.heap[sb]? = some (.cells #[.int .i64 (j : Int), .int .i64 dj] 105 (0, 0))) := HBk'.out hk0
              have HQq : Hid _ := hqq'
              have HLk : Hid (k < (wayO j).length) := hlk
              have HK0 : Hid (k = 0) := hk0
              clear hqq' hl1 HBk'
              obtain ⟨ga, ca, e3, hca⟩ := arc_at HOu.out (by omega)
              cases e3
              obtain ⟨a0, a1⟩ := hca k hlk
              have a2 := (HSk.out.low.cell (p := ⟨ga, k * 2, none⟩) (lt_cell a0)).trans a0
              have a3 := (HSk.out.low.cell (p := ⟨ga, k * 2 + 1, none⟩) (lt_cell a1)).trans a1
              rw [ht] at a2
              rw [hdj] at hdy hdd
              generalize ((wayO j)[k]'hlk).w = y at a3 hdy hyy
              have HSk0 : Hid (FaS w3 wr mf ms qb base (wayF (j + 1)) (wayS (j + 1)) none) := by have := HSk.out; rw [if_pos hk0] at this; exact this
              clear HSk a0 a1 hca ht hk0
              go_upto_region 19 with (fail)
              generalize hWa : World.alloc wr _ = Wa
              have ba : Below wr.heap.size wr Wa := by rw [← hWa]; exact one_new _ _
              have HAb : Hid (Wa.heap[wr.heap.size]? = some (.cells #[.int .i64 ((j + 1 : Nat) : Int), .int .i64 y] 111 (0, 0))) := by rw [← hWa]; exact heap_alloc_new _ _
              have HSa : Hid (FaS w3 Wa mf ms qb base (wayF (j + 1)) (wayS (j + 1)) none) := HSk0.out.new ba
              have HBa : Hid (Wa.heap[sb]? = _) := (ba.block _ (lt_of_block HBk.out)).trans HBk.out
              obtain ⟨ab, hab⟩ : ∃ ab, wr.heap.size = ab := ⟨_, rfl⟩
              rw [hab] at HAb ⊢
              clear hWa ba HSk0 HBk a2 a3
              refine far_r19 (sb := sb) (ab := ab) (d := dj) (ta := ((j + 1 : Nat) : Int)) (ya := y) rfl rfl rfl rfl (box2 HBa.out).2 HAb.out hdd hyy ?_
              rintro X Wb hbb ⟨hx18, hx19⟩
              have HSb2 : Hid (FaS w3 Wb mf ms qb base (wayF (j + 1)) (wayS (j + 1)) none) := HSa.out.new hbb
              have HBb : Hid (Wb.heap[sb]? = _) := (hbb.block _ (lt_of_block HBa.out)).trans HBa.out
              have l0 := (box2 ((hbb.block _ (lt_of_block HAb.out)).trans HAb.out)).1
              simp only [puts]
              rw [hx18, hx19]
              generalize X 87 = t87
              generalize X 88 = t88
              generalize X 89 = t89
              generalize X 90 = t90
              generalize X 91 = t91
              generalize X 92 = t92
              generalize X 86 = t86
              generalize X 93 = t93
              generalize X 94 = t94
              simp only [Act.put, List.setIfInBounds_toArray, List.set_cons_succ, List.set_cons_zero]
              rw [hdy]
              clear hx18 hx19 hbb HSa HBa HAb
              obtain ⟨vq, hvq, hoq⟩ := HSb2.out.qi
              dsimp only at hoq
              have HVq : Hid _ := hvq
              have HOq : Hid (Wb.ownsRow base 105 2 vq 0 []) := hoq
              clear hvq hoq
              go_wp2_with (go_at_call 55; refine (hpush_none HVq.out HOq.out HSb2.out.lb).mono ?_; rintro r Wc ⟨rfl, v', hvc, hoc, fc⟩)
              have HSc : Hid (FaS w3 Wc mf ms qb base (wayF (j + 1)) (wayS (j + 1)) (if k + 1 = 0 then none else wayQ (j + 1))) := by
                rw [if_neg (by omega), HQq.out]
                exact FaS.queue HSb2.out fc (fun q hq => by
                  rcases hq with e | e
                  · rw [e]; exact HSb2.out.lq
                  · exact (World.ownsRow.lt HOq.out q e).1) ⟨v', hvc, hoc⟩
              go_roundw
              case rel =>
                have hk0 := HK0.out
                exact ⟨k + 1, Nat.succ_le_of_lt HLk.out, by first | (subst hk0; rfl) | (rw [hk0]; rfl) | simp [hk0, wrap64], HSc, fun h => absurd h (by omega)⟩
              case measure =>
                have := HLk.out
                have hk0 := HK0.out
                clear HSc HQq HK0 HLk
                subst hk0
                have e1 : (intOf (Value.int .i64 (wrap64 (((0 : Nat) : Int) + 1)))).toNat = 1 := by simp [intOf, wrap64]
                have e2 : (intOf (Value.int .i64 ((0 : Nat) : Int))).toNat = 0 := rfl
                rw [e1, e2]
                omega
            · obtain rfl : k = (wayO j).length := by omega
              rw [way_end hlt] at HSk
              go_wp2
              go_roundw
              case rel =>
                refine ⟨_, _, _, _, _, _, _, _, _, _, _, _, _, _, _, _, _, _, _, _, _, _, _, _, _, _, _, _, _, _, _, _, _, _, _, _, _, _, _, _, _, _, _, _, _, _, _, _, _, _, _, _, _, _, _, _, _, _, _, _, _, _, ⟨j + 1, by omega, HSk⟩, rfl⟩
              case measure => rw [hmu, muW_way HSk.out.si (by omega)]; omega
        · obtain rfl : j = 3 := by omega
          obtain ⟨v, hq, ho⟩ := HS.out.qi
          have hwq : wayQ 3 = none := rfl
          rw [hwq] at ho
          dsimp only at ho
          obtain ⟨p, m, c, rfl⟩ := own_any ho
          have hm0 : m = 0 := by
            rcases ho.2 with ⟨e1, _⟩ | ⟨g, cap, cur, e1, _⟩
            · cases e1; rfl
            · cases e1; rfl
          subst hm0
          have b0 := cell_of_one hq
          have HF3 : Hid (IB wr mf [0, 5, 7]) := HS.out.fi
          have HL3 : Hid (Below w3.heap.size w3 wr) := HS.out.low
          clear hq ho
          go_wp2_with (go_at_call 51; refine (len_any).mono ?_; rintro r w5 ⟨rfl, rfl⟩)
          refine noGoto_ret ?_
          go_wp2
          go_ret2
          exact ⟨⟨mf, rfl, HF3.out⟩, HB3.out.trans (HL3.out.mono HB3.out.size)⟩
end Go.Proofs.Ytmpbdaogdahiiaa
end

section
/- What awake of layer 10 returns: true. -/
namespace Go.Proofs.Ytmpbdaogdahiiaa
open Go.RowKit Go.Shelf
attribute [local go_sem] Oper.semAt_some
def G10 : List Vx := [⟨1, 0, [⟨2, 5⟩]⟩, ⟨2, 0, [⟨3, 2⟩]⟩, ⟨3, 0, []⟩]
theorem G10_ok : ∀ v ∈ G10, v.ok := by
  intro v hv
  simp only [G10, List.mem_cons, List.not_mem_nil, or_false] at hv
  rcases hv with rfl | rfl | rfl
  · refine ⟨by unfold I64; decide, by unfold I64; decide, fun e he => ?_, by decide⟩
    simp only [List.mem_cons, List.not_mem_nil, or_false] at he
    subst he
    exact ⟨by unfold I64; decide, by unfold I64; decide⟩
  · refine ⟨by unfold I64; decide, by unfold I64; decide, fun e he => ?_, by decide⟩
    simp only [List.mem_cons, List.not_mem_nil, or_false] at he
    subst he
    exact ⟨by unfold I64; decide, by unfold I64; decide⟩
  · exact ⟨by unfold I64; decide, by unfold I64; decide, fun e he => (by cases he), by decide⟩
theorem far10 {w : World} {P : Nat → Prop} {ao : Option Addr} (cap : Nat) (h : VxAt w P ao G10) : Calls Try.prog 30 #[.agg #[.slice ao 3 cap], .int .i64 1, .bool false] w fun r w' => (∃ m, r = .returned (.tuple #[.slice (some ⟨m, 0, none⟩) 3 3, .int .i64 0]) ∧ IB w' m [0, 5, 7]) ∧ Below w.heap.size w w' :=
  far_way cap G10 rfl h G10_ok rfl (by decide +kernel) (by decide +kernel) rfl
theorem way_at {W : World} {b1 b2 b3 : Nat} {f1 f2 f3 : Nat × Nat} (e1 : W.heap[b1]? = some (.cells #[.int .i64 2, .int .i64 5] 55 f1)) (e2 : W.heap[b2]? = some (.cells #[.int .i64 3, .int .i64 2] 55 f2)) (e3 : W.heap[b3]? = some (.cells #[.int .i64 1, .int .i64 0, .slice (some ⟨b1, 0, none⟩) 1 1, .int .i64 2, .int .i64 0, .slice (some ⟨b2, 0, none⟩) 1 1, .int .i64 3, .int .i64 0, .slice none 0 0] 58 f3)) : VxAt W (fun _ => True) (some ⟨b3, 0, none⟩) G10 := by
  intro _
  refine ⟨b3, 0, rfl, trivial, fun j hj => ?_⟩
  match j, hj with
  | 0, _ =>
    refine ⟨some ⟨b1, 0, none⟩, 1, by simp [World.cell?, e3, G10], by simp [World.cell?, e3, G10], by simp [World.cell?, e3, G10], fun _ => ⟨b1, 0, rfl, trivial, fun i hi => ?_⟩⟩
    match i, hi with
    | 0, _ => exact ⟨by simp [World.cell?, e1, G10], by simp [World.cell?, e1, G10]⟩
  | 1, _ =>
    refine ⟨some ⟨b2, 0, none⟩, 1, by simp [World.cell?, e3, G10], by simp [World.cell?, e3, G10], by simp [World.cell?, e3, G10], fun _ => ⟨b2, 0, rfl, trivial, fun i hi => ?_⟩⟩
    match i, hi with
    | 0, _ => exact ⟨by simp [World.cell?, e2, G10], by simp [World.cell?, e2, G10]⟩
  | 2, _ => exact ⟨none, 0, by simp [World.cell?, e3, G10], by simp [World.cell?, e3, G10], by simp [World.cell?, e3, G10], fun h => absurd h (by simp [G10])⟩
theorem way_made (w : World) : VxAt ((((w.alloc (.cells #[.int .i64 2, .int .i64 5] 55)).alloc (.cells #[.int .i64 3, .int .i64 2] 55)).alloc (.cells #[.int .i64 1, .int .i64 0, .slice (some ⟨w.heap.size, 0, none⟩) 1 1, .int .i64 2, .int .i64 0, .slice (some ⟨w.heap.size + 1, 0, none⟩) 1 1, .int .i64 3, .int .i64 0, .slice none 0 0] 58)).alloc (.cells #[.slice (some ⟨w.heap.size + 1 + 1, 0, none⟩) 3 3] 24)) (fun _ => True) (some ⟨w.heap.size + 1 + 1, 0, none⟩) G10 ∧ Below w.heap.size w ((((w.alloc (.cells #[.int .i64 2, .int .i64 5] 55)).alloc (.cells #[.int .i64 3, .int .i64 2] 55)).alloc (.cells #[.int .i64 1, .int .i64 0, .slice (some ⟨w.heap.size, 0, none⟩) 1 1, .int .i64 2, .int .i64 0, .slice (some ⟨w.heap.size + 1, 0, none⟩) 1 1, .int .i64 3, .int .i64 0, .slice none 0 0] 58)).alloc (.cells #[.slice (some ⟨w.heap.size + 1 + 1, 0, none⟩) 3 3] 24)) := by
  have b1 := one_new w (.cells #[.int .i64 2, .int .i64 5] 55)
  have h1 := heap_alloc_new w (.cells #[.int .i64 2, .int .i64 5] 55)
  have b2 := one_new (w.alloc (.cells #[.int .i64 2, .int .i64 5] 55)) (.cells #[.int .i64 3, .int .i64 2] 55)
  have h2 := heap_alloc_new (w.alloc (.cells #[.int .i64 2, .int .i64 5] 55)) (.cells #[.int .i64 3, .int .i64 2] 55)
  have b3 := one_new ((w.alloc (.cells #[.int .i64 2, .int .i64 5] 55)).alloc (.cells #[.int .i64 3, .int .i64 2] 55)) (.cells #[.int .i64 1, .int .i64 0, .slice (some ⟨w.heap.size, 0, none⟩) 1 1, .int .i64 2, .int .i64 0, .slice (some ⟨w.heap.size + 1, 0, none⟩) 1 1, .int .i64 3, .int .i64 0, .slice none 0 0] 58)
  have h3 := heap_alloc_new ((w.alloc (.cells #[.int .i64 2, .int .i64 5] 55)).alloc (.cells #[.int .i64 3, .int .i64 2] 55)) (.cells #[.int .i64 1, .int .i64 0, .slice (some ⟨w.heap.size, 0, none⟩) 1 1, .int .i64 2, .int .i64 0, .slice (some ⟨w.heap.size + 1, 0, none⟩) 1 1, .int .i64 3, .int .i64 0, .slice none 0 0] 58)
  have b4 := one_new (((w.alloc (.cells #[.int .i64 2, .int .i64 5] 55)).alloc (.cells #[.int .i64 3, .int .i64 2] 55)).alloc (.cells #[.int .i64 1, .int .i64 0, .slice (some ⟨w.heap.size, 0, none⟩) 1 1, .int .i64 2, .int .i64 0, .slice (some ⟨w.heap.size + 1, 0, none⟩) 1 1, .int .i64 3, .int .i64 0, .slice none 0 0] 58)) (.cells #[.slice (some ⟨w.heap.size + 1 + 1, 0, none⟩) 3 3] 24)
  simp only [World.size_alloc] at b2 h2 b3 h3 b4
  have b34 := b3.trans (b4.mono (by omega))
  have b24 := b2.trans (b34.mono (by omega))
  refine ⟨way_at (b1 := w.heap.size) (b2 := w.heap.size + 1) (f1 := (0, 0)) (f2 := (0, 0)) (f3 := (0, 0)) ?_ ?_ ?_, b1.trans (b24.mono (by omega))⟩
  · exact (b24.block _ (by omega)).trans h1
  · exact (b34.block _ (by omega)).trans h2
  · exact (b4.block _ (by omega)).trans h3
set_option maxRecDepth 100000 in
set_option maxHeartbeats 400000 in
theorem awake10 (w : World) : Calls Try.prog 11 #[] w fun r w' => r = .returned (.bool true) ∧ Below w.heap.size w w' := by
  obtain ⟨hA, hB⟩ := way_made w
  have HA : Hid _ := hA
  have HB : Hid _ := hB
  clear hA hB
  go_enter Try.func11, Try.ntmps11
  go_wp2_with (go_at_call 30; refine (far10 3 HA.out).mono ?_; rintro r w5 ⟨⟨m, rfl, hI⟩, hb5⟩; have c2 := (IB.cell hI (j := 2) (by decide)).1; have c3 : w5.cell? ⟨m, 2, none⟩ = some (.int .i64 7) := c2; clear c2)
  go_ret
  exact ⟨rfl, HB.out.trans (hb5.mono HB.out.size)⟩
end Go.Proofs.Ytmpbdaogdahiiaa
end

section
/- What the document's Edges, Find and Check return. -/
namespace Go.Proofs.Ytmpbdaogdahiiaa
open Go.RowKit

set_option maxRecDepth 100000 in
theorem refedges_any {w : World} {P : Nat → Prop} {ao : Option Addr} {G : List Vx} (cap : Nat) (h : VxAt w P ao G) (hl : G.length ≤ 9223372036854775807) :
    Calls Try.prog 49 #[.slice ao G.length cap] w fun r w' => r = .returned (.int .i64 (sumE G)) ∧ Below w.heap.size w w' := by
  go_enter Try.func49, Try.ntmps49
  go_wp2
  go_loopw [3, 4] (fun n i wr => ∃ (k : Nat), k ≤ G.length ∧ i = .int .i64 k ∧ n = .int .i64 (sumE (G.take k)) ∧ Below w.heap.size w wr) (fun _ i _ => G.length - (intOf i).toNat)
  case atStart => exact ⟨0, Nat.zero_le _, rfl, rfl, Below.refl _ _⟩
  case round =>
    obtain ⟨k, hk, rfl, rfl, hb⟩ := hrel
    by_cases hlt : k < G.length
    · obtain ⟨b, off, rfl, hP, hc⟩ := h (by omega)
      obtain ⟨eo, ec, c0, c1, c2, _⟩ := hc k hlt
      have hbb := lt_cell c0
      have d2 := (hb.cell (p := ⟨b, off + k * 3 + 2, none⟩) hbb).trans c2
      have HS : Hid _ := sumE_snoc G k hlt
      clear c0 c1 c2 hc
      generalize G[k] = y at d2 HS
      go_wp2
      go_roundw
      case rel => exact ⟨k + 1, by omega, by go_num, by rw [HS.out], hb⟩
      case measure => simp [intOf]; omega
    · obtain rfl : k = G.length := by omega
      go_wp2
      go_ret
      exact ⟨by rw [List.take_length]; rfl, hb⟩
theorem findN_from {l : List Int} {x : Int} {k : Nat} (hk : k ≤ l.length) (h1 : ∀ j (h : j < l.length), j < k → l[j] < x) (h2 : ∀ h : k < l.length, ¬ l[k] < x) : findN l x = k := by
  have hle := findN_le l x
  rcases Nat.lt_trichotomy (findN l x) k with h | h | h
  · exact absurd (h1 _ (by omega) h) (findN_stop l x (by omega))
  · exact h
  · obtain ⟨h', h''⟩ := findN_lt l x k h
    exact absurd h'' (h2 h')

set_option maxRecDepth 100000 in
set_option maxHeartbeats 1000000 in
theorem reffind_any {w : World} {P : Nat → Prop} {ao : Option Addr} {G : List Vx} (cap : Nat) (x : Int) (h : VxAt w P ao G) (hl : G.length ≤ 9223372036854775807) :
    Calls Try.prog 16 #[.slice ao G.length cap, .int .i64 x] w fun r w' => r = .returned (.tuple #[.int .i64 (findN (ids G) x), .bool (foundB (ids G) x)]) ∧ Below w.heap.size w w' := by
  go_enter Try.func16, Try.ntmps16
  go_wp2
  go_loopw [6] (fun i wr => ∃ (k : Nat), k ≤ G.length ∧ i = .int .i64 k ∧ Hid (∀ j (h : j < (ids G).length), j < k → (ids G)[j] < x) ∧ Below w.heap.size w wr) (fun i _ => G.length - (intOf i).toNat)
  case atStart => exact ⟨0, Nat.zero_le _, rfl, fun j _ hj => absurd hj (by omega), Below.refl _ _⟩
  case round =>
    obtain ⟨k, hk, rfl, HR, hb⟩ := hrel
    by_cases hlt : k < G.length
    · obtain ⟨b, off, rfl, hP, hc⟩ := h (by omega)
      obtain ⟨eo, ec, c0, c1, c2, _⟩ := hc k hlt
      have hbb := lt_cell c0
      have d0 := (hb.cell (p := ⟨b, off + k * 3, none⟩) hbb).trans c0
      have HG : Hid ((ids G)[k]'(by rw [ids_len]; exact hlt) = G[k].id) := ids_get G k hlt
      clear c0 c1 c2 hc
      generalize G[k] = y at d0 HG
      by_cases hy : y.id < x
      · go_wp2
        go_roundw
        case rel => exact ⟨k + 1, by omega, by go_num, (fun j hj hjk => by
          by_cases e : j = k
          · subst e; rw [HG.out]; exact hy
          · exact HR.out j hj (by omega)), hb⟩
        case measure => simp [intOf]; omega
      · have HF : Hid (findN (ids G) x = k) := findN_from (by rw [ids_len]; exact hk) HR.out (fun h => by rw [HG.out]; exact hy)
        have HB : Hid (foundB (ids G) x = (y.id == x)) := by
          show _ = _
          unfold foundB
          rw [HF.out, List.getElem?_eq_getElem (by rw [ids_len]; exact hlt), HG.out]
          rfl
        go_wp2
        go_quiet (fail)
        go_wp2
        go_ret2
        exact ⟨by rw [HF.out, HB.out]; rfl, bel_drewN hb _⟩
    · have HF : Hid (findN (ids G) x = k) := findN_from (by rw [ids_len]; exact hk) HR.out (fun h => by rw [ids_len] at h; exact absurd h hlt)
      have HB : Hid (foundB (ids G) x = false) := by
        show _ = _
        unfold foundB
        rw [HF.out, List.getElem?_eq_none (by rw [ids_len]; omega)]; rfl
      have hd : decide ((k : Int) < (G.length : Int)) = false := by rw [decide_eq_false_iff_not]; omega
      go_wp2
      go_quiet (fail)
      go_wp2
      go_ret2
      exact ⟨by rw [HF.out, HB.out]; rfl, bel_drewN hb _⟩
end Go.Proofs.Ytmpbdaogdahiiaa
end

section
/- What the document's Check returns. -/
namespace Go.Proofs.Ytmpbdaogdahiiaa
open Go.RowKit
/-- A vertex's edges rise, and their ends are there. -/
def GoodE (G : List Vx) (L : List Ed) (n : Nat) : Prop := (∀ j (h : j < L.length), j < n → (ids G).contains L[j].t = true) ∧ ∀ j (h : j + 1 < L.length), j + 1 < n → L[j].t < L[j + 1].t
theorem good_all {G : List Vx} (H : ∀ j (h : j < G.length), GoodE G G[j].es G[j].es.length) : risesE G = true ∧ thereE G = true := by
  constructor
  · refine risesE_all (fun j hj => (riseB_iff _).2 (fun i hi => ?_))
    have := (H j hj).2 i (by rw [ends_len] at hi; exact hi) (by rw [ends_len] at hi; exact hi)
    rw [ends_get _ _ (by rw [ends_len] at hi; omega), ends_get _ _ (by rw [ends_len] at hi; exact hi)]
    exact this
  · unfold thereE
    rw [List.all_eq_true]
    intro v hv
    obtain ⟨j, hj, rfl⟩ := List.getElem_of_mem hv
    rw [List.all_eq_true]
    intro e he
    obtain ⟨i, hi, rfl⟩ := List.getElem_of_mem he
    exact (H j hj).1 i hi hi
theorem bad_there {G : List Vx} {j i : Nat} (hj : j < G.length) (hi : i < G[j].es.length) (h : (ids G).contains G[j].es[i].t = false) : thereE G = false := by
  unfold thereE
  rw [Bool.eq_false_iff]
  intro ha
  rw [List.all_eq_true] at ha
  have h1 := ha _ (List.getElem_mem hj)
  rw [List.all_eq_true] at h1
  have h2 := h1 _ (List.getElem_mem hi)
  rw [h] at h2
  cases h2
theorem bad_rise {G : List Vx} {j i : Nat} (hj : j < G.length) (hi : i + 1 < G[j].es.length) (h : ¬ G[j].es[i].t < G[j].es[i + 1].t) : risesE G = false := by
  refine risesE_at hj (rise_false (j := i) (by rw [ends_len]; exact hi) ?_)
  rw [ends_get _ _ (by omega), ends_get _ _ hi]
  exact h

set_option maxRecDepth 100000 in
set_option maxHeartbeats 2000000 in
theorem refcheck_any {w : World} {P : Nat → Prop} {ao : Option Addr} {G : List Vx} (cap : Nat) (h : VxAt w P ao G) (hl : G.length ≤ 9223372036854775807) (hok : ∀ v ∈ G, v.ok) :
    Calls Try.prog 29 #[.slice ao G.length cap] w fun r w' => r = .returned (.int .i64 (chk G)) ∧ Below w.heap.size w w' := by
  by_cases hlen : 256 < G.length
  · have HC : Hid (chk G = 30) := if_pos (Or.inl hlen)
    go_enter Try.func29, Try.ntmps29
    go_wp2
    go_ret
    exact ⟨by rw [HC.out]; rfl, Below.refl _ _⟩
  · have HV : Hid (VxAt w P ao G) := h
    have HO : Hid (∀ v ∈ G, v.ok) := hok
    clear h hok
    go_enter Try.func29, Try.ntmps29
    go_wp2
    go_loopw [3] (fun i wr => ∃ (k : Nat), 1 ≤ k ∧ k ≤ max G.length 1 ∧ i = .int .i64 k ∧ Hid (∀ j (h : j + 1 < (ids G).length), j + 1 < k → (ids G)[j] < (ids G)[j + 1]) ∧ Below w.heap.size w wr) (fun i _ => G.length - (intOf i).toNat)
    case atStart => exact ⟨1, Nat.le_refl _, by omega, rfl, fun j _ hj => absurd hj (by omega), Below.refl _ _⟩
    case round =>
      obtain ⟨k, hk1, hk, rfl, HR, hb⟩ := hrel
      by_cases hlt : k < G.length
      · obtain ⟨b, off, rfl, hP, hc⟩ := HV.out (by omega)
        obtain ⟨m, HK⟩ : ∃ m, Hid (k = m + 1) := ⟨k - 1, (by omega : k = k - 1 + 1)⟩
        have hmk : k = m + 1 := HK.out
        have hm0 : m < G.length := by omega
        obtain ⟨eo, ec, c0, _, _, _⟩ := hc m hm0
        obtain ⟨fo, fc, f0, _, _, _⟩ := hc k hlt
        have hbb := lt_cell c0
        have d0 := (hb.cell (p := ⟨b, off + m * 3, none⟩) hbb).trans c0
        have g0 := (hb.cell (p := ⟨b, off + k * 3, none⟩) hbb).trans f0
        have HM : Hid ((ids G)[m]'(by rw [ids_len]; omega) = G[m].id) := ids_get G m hm0
        have HN : Hid ((ids G)[k]'(by rw [ids_len]; omega) = G[k].id) := ids_get G k hlt
        have hm1 : IntKind.i64.wrap ((k : Int) - 1) = m := by rw [IntKind.wrap_i64]; omega
        have hm2 : wrap64 ((k : Int) - 1) = m := by unfold wrap64; omega
        clear c0 f0 hc hmk
        generalize G[m] = y at d0 HM
        generalize G[k] = z at g0 HN
        go_wp2
        go_quiet (fail)
        by_cases hr : z.id ≤ y.id
        · have HC : Hid (chk G = 30) := if_pos (Or.inr (rise_at HK.out (by rw [ids_len]; exact hlt) HM.out HN.out hr))
          go_wp2
          go_ret
          exact ⟨by rw [HC.out]; rfl, bel_drewN hb _⟩
        · go_wp2
          go_roundw
          case rel => exact ⟨k + 1, by omega, by omega, by go_num, rise_step HK.out (by rw [ids_len]; exact hlt) HM.out HN.out (by omega) HR.out, bel_drewN hb _⟩
          case measure => simp [intOf]; omega
      · have HRi : Hid (Rise (ids G)) := fun j hj => HR.out j hj (by rw [ids_len] at hj; omega)
        have HRb : Hid (riseB (ids G) = true) := (riseB_iff _).2 HRi.out
        have HC : Hid (chk G = if 2048 < sumE G ∨ risesE G = false ∨ thereE G = false then 31 else 0) := if_neg (by rw [HRb.out]; simp; omega)
        have HVr : Hid (VxAt wr P ao G) := HV.out.new hb
        have hE := refedges_any cap HVr.out hl
        by_cases hs : 2048 < sumE G
        · go_wp2_with (go_at_call 49; refine hE.mono ?_; rintro r w1 ⟨rfl, hb1⟩)
          go_ret
          exact ⟨by rw [HC.out, if_pos (Or.inl hs)]; rfl, hb.trans (hb1.mono hb.size)⟩
        · go_wp2_with (go_at_call 49; refine hE.mono ?_; rintro r w1 ⟨rfl, hb1⟩)
          have hbA : Below w.heap.size w w1 := hb.trans (hb1.mono hb.size)
          have HVA : Hid (VxAt w1 P ao G) := HVr.out.new hb1
          clear hE hb1
          go_loopw [4, 5, 6, 7, 8] (fun i _ _ _ _ wx => ∃ (j : Nat), j ≤ G.length ∧ i = .int .i64 j ∧ Hid (∀ q (h : q < G.length), q < j → GoodE G G[q].es G[q].es.length) ∧ Below w.heap.size w wx) (fun i _ _ _ _ _ => G.length - (intOf i).toNat)
          case atStart => exact ⟨0, Nat.zero_le _, rfl, fun q _ hq => absurd hq (by omega), hbA⟩
          case round =>
            obtain ⟨j, hj, rfl, HQ, hbx⟩ := hrel
            by_cases hjl : j < G.length
            · obtain ⟨b, off, rfl, hP, hc⟩ := HV.out (by omega)
              obtain ⟨eo, ec, e0, e1, e2, e3⟩ := hc j hjl
              have hbb := lt_cell e0
              have d2 := (hbx.cell (p := ⟨b, off + j * 3 + 2, none⟩) hbb).trans e2
              have HE : Hid (EdAt w P eo G[j].es) := e3
              have hel : G[j].es.length ≤ 9223372036854775807 := Nat.le_trans (HO.out _ (List.getElem_mem hjl)).len (by decide)
              have HB1 : Hid (∀ y, G[j] = y → ∀ i (h : i < y.es.length), (ids G).contains y.es[i].t = false → thereE G = false) := fun y e i hi hcn => by subst e; exact bad_there hjl hi hcn
              have HB2 : Hid (∀ y, G[j] = y → ∀ i (h : i + 1 < y.es.length), ¬ y.es[i].t < y.es[i + 1].t → risesE G = false) := fun y e i hi hcn => by subst e; exact bad_rise hjl hi hcn
              have HB3 : Hid (∀ y, G[j] = y → GoodE G y.es y.es.length → ∀ q (h : q < G.length), q < j + 1 → GoodE G G[q].es G[q].es.length) := fun y e hg q hq hqj => by
                by_cases eq : q = j
                · subst eq; rw [e]; exact hg
                · exact HQ.out q hq (by omega)
              obtain ⟨y, hy⟩ : ∃ y, G[j] = y := ⟨_, rfl⟩
              have HY : Hid (G[j] = y) := hy
              rw [hy] at d2 HE hel
              clear hy e0 e1 e2 e3 hc
              go_wp2
              go_loopw [6, 7, 8] (fun i _ _ wx => ∃ (k : Nat), k ≤ y.es.length ∧ i = .int .i64 k ∧ Hid (GoodE G y.es k) ∧ Below w.heap.size w wx) (fun i _ _ _ => y.es.length - (intOf i).toNat)
              case atStart => exact ⟨0, Nat.zero_le _, rfl, ⟨fun q _ hq => absurd hq (by omega), fun q _ hq => absurd hq (by omega)⟩, hbx⟩
              case round =>
                obtain ⟨k, hk, rfl, HD, hby⟩ := hrel
                by_cases hkl : k < y.es.length
                · obtain ⟨eb, eoff, rfl, hPe, hce⟩ := HE.out (by omega)
                  have f0 := (hby.cell (p := ⟨eb, eoff + k * 2, none⟩) (lt_cell (hce k hkl).1)).trans (hce k hkl).1
                  have hF := reffind_any cap y.es[k].t (HV.out.new hby) hl
                  have HP1 : Hid (foundB (ids G) y.es[k].t = (ids G).contains y.es[k].t) := foundB_iff HRi.out _
                  have HN : Hid (∀ z, y.es[k] = z → (ids G).contains z.t = false → thereE G = false) := fun z e hcn => HB1.out y HY.out k hkl (by rw [e]; exact hcn)
                  cases hfb : foundB (ids G) y.es[k].t with
                  | false =>
                    rw [hfb] at hF HP1
                    have HT : Hid (thereE G = false) := HB1.out y HY.out k hkl HP1.out.symm
                    clear hfb hce
                    generalize y.es[k] = z at f0 hF
                    go_wp2_with (go_at_call 16; refine hF.mono ?_; rintro r w2 ⟨rfl, hb2⟩)
                    go_quiet (fail)
                    go_wp2
                    go_ret
                    exact ⟨by rw [HC.out, if_pos (Or.inr (Or.inr HT.out))]; rfl, bel_drewN (hby.trans (hb2.mono hby.size)) _⟩
                  | true =>
                    rw [hfb] at hF HP1
                    by_cases hk0 : k = 0
                    · have HG : Hid (GoodE G y.es (k + 1)) := ⟨fun q hq hqk => by
                        obtain rfl : q = k := by omega
                        exact HP1.out.symm, fun q _ hq => absurd hq (by omega)⟩
                      have hd : decide (0 < k) = false := by rw [decide_eq_false_iff_not]; omega
                      clear hfb hce hk0
                      generalize y.es[k] = z at f0 hF
                      go_wp2_with (go_at_call 16; refine hF.mono ?_; rintro r w2 ⟨rfl, hb2⟩)
                      go_quiet (fail)
                      go_wp2
                      go_roundw
                      case rel => exact ⟨k + 1, by omega, by go_num, HG.out, bel_drewN (hby.trans (hb2.mono hby.size)) _⟩
                      case measure => simp [intOf]; omega
                    · obtain ⟨m, HK⟩ : ∃ m, Hid (k = m + 1) := ⟨k - 1, (by omega : k = k - 1 + 1)⟩
                      have hmk : k = m + 1 := HK.out
                      have hm0 : m < y.es.length := by omega
                      have g0 := (hby.cell (p := ⟨eb, eoff + m * 2, none⟩) (lt_cell (hce m hm0).1)).trans (hce m hm0).1
                      have hm1 : IntKind.i64.wrap ((k : Int) - 1) = m := by rw [IntKind.wrap_i64]; omega
                      have hm2 : wrap64 ((k : Int) - 1) = m := by unfold wrap64; omega
                      have hpos : decide (0 < k) = true := by rw [decide_eq_true_iff]; omega
                      have hebw : eb < w.heap.size := lt_cell (hce k hkl).1
                      have HG : Hid (∀ u z, y.es[m] = u → y.es[k] = z → u.t < z.t → GoodE G y.es (k + 1)) := fun u z hu hz hlt2 => ⟨fun q hq hqk => by
                        by_cases e : q = k
                        · subst e; exact HP1.out.symm
                        · exact HD.out.1 q hq (by omega), fun q hq hqk => by
                        by_cases e : q = m
                        · subst e; subst hmk; rw [hu, hz]; exact hlt2
                        · exact HD.out.2 q hq (by omega)⟩
                      have HX : Hid (∀ u z, y.es[m] = u → y.es[k] = z → ¬ u.t < z.t → risesE G = false) := fun u z hu hz hn => HB2.out y HY.out m (by omega) (by subst hmk; rw [hu, hz]; omega)
                      obtain ⟨u, hu⟩ : ∃ u, y.es[m] = u := ⟨_, rfl⟩
                      obtain ⟨z, hz⟩ : ∃ z, y.es[k] = z := ⟨_, rfl⟩
                      have HU : Hid (y.es[m] = u) := hu
                      have HZ : Hid (y.es[k] = z) := hz
                      rw [hu] at g0
                      rw [hz] at f0 hF
                      clear hfb hce hk0 hu hz hmk
                      go_wp2_with (go_at_call 16; refine hF.mono ?_; rintro r w2 ⟨rfl, hb2⟩; have f1 := (hb2.cell (p := ⟨eb, eoff + k * 2, none⟩) (Nat.lt_of_lt_of_le hebw hby.size)).trans f0; have g1 := (hb2.cell (p := ⟨eb, eoff + m * 2, none⟩) (Nat.lt_of_lt_of_le hebw hby.size)).trans g0)
                      go_quiet (fail)
                      by_cases hr : z.t ≤ u.t
                      · have HT : Hid (risesE G = false) := HX.out u z HU.out HZ.out (by omega)
                        go_wp2
                        go_ret
                        exact ⟨by rw [HC.out, if_pos (Or.inr (Or.inl HT.out))]; rfl, bel_drewN (hby.trans (hb2.mono hby.size)) _⟩
                      · go_wp2
                        go_roundw
                        case rel => exact ⟨k + 1, by omega, by go_num, HG.out u z HU.out HZ.out (by omega), bel_drewN (hby.trans (hb2.mono hby.size)) _⟩
                        case measure => simp [intOf]; omega
                · obtain rfl : k = y.es.length := by omega
                  go_wp2
                  go_roundw
                  case rel => exact ⟨j + 1, by omega, by go_num, HB3.out y HY.out HD.out, hby⟩
                  case measure => simp [intOf]; omega
            · have HT := good_all (fun q hq => HQ.out q hq (by omega))
              have HE0 : Hid (chk G = 0) := HC.out.trans (if_neg (by rw [HT.1, HT.2]; simp; omega))
              clear HT
              go_wp2
              go_ret
              exact ⟨by rw [HE0.out]; rfl, hbx⟩
theorem rise_of {G : List Vx} (h : chk G = 0) : G.length ≤ 256 ∧ Rise (ids G) := by
  unfold chk at h
  split at h
  · cases h
  · rename_i hn
    refine ⟨by omega, (riseB_iff _).1 ?_⟩
    cases hb : riseB (ids G) with
    | true => rfl
    | false => exact absurd (Or.inr hb) hn
end Go.Proofs.Ytmpbdaogdahiiaa
end
