import Derived.Test.YtnhjflebaeokeaaGreatVwFgM
import Derived.Test.YtnhjflebaeokeaaGreatVwSortM
/- What is committed is counted. -/
namespace Go.Proofs.YtnhjflebaeokeaaGreat
open Go.RowKit Go.Maps
attribute [local go_sem] Oper.semAt_some
/-- A block of ints, of one's own. -/
def VI (W : World) (m : Nat) (L : List Int) : Prop := W.heap[m]? = some (.cells (L.map (Value.int .i64)).toArray 3 (0, 0))
theorem VI.lt {W : World} {m : Nat} {L : List Int} (h : VI W m L) : m < W.heap.size := vlt_blk h
theorem VI.cell {W : World} {m : Nat} {L : List Int} (h : VI W m L) {j : Nat} (hj : j < L.length) : W.cell? ⟨m, j, none⟩ = some (.int .i64 L[j]) ∧ W.frozen? ⟨m, j, none⟩ = false := by
  unfold VI at h
  constructor
  · simp [World.cell?, h, hj]
  · simp [World.frozen?, h]
theorem VI.set {W : World} {m : Nat} {L : List Int} (h : VI W m L) (j : Nat) (x : Int) : VI (W.setCell ⟨m, j, none⟩ (.int .i64 x)) m (L.set j x) := by
  unfold VI at h ⊢
  rw [vblk_set _ h, List.setIfInBounds_toArray, List.map_set]
theorem VI.kept {W W' : World} {m : Nat} {L : List Int} {S : Nat → Prop} (h : VI W m L) (f : Fr W W' S) (hs : ¬ S m) : VI W' m L := (f.block m h.lt hs).trans h
theorem VI.new {W W' : World} {m : Nat} {L : List Int} (h : VI W m L) (hb : Below W.heap.size W W') : VI W' m L := (hb.block m h.lt).trans h
theorem VI.made (W : World) (n : Nat) : VI (W.alloc (.cells (madeCells #[.int .i64 0] n) 3)) W.heap.size (List.replicate n 0) := by
  unfold VI
  rw [heap_alloc_new]
  have : madeCells #[Value.int .i64 0] n = ((List.replicate n (0 : Int)).map (Value.int .i64)).toArray := by
    apply Array.ext
    · rw [size_madeCells]; simp
    · intro i h1 h2
      simp [madeCells, Nat.mod_one]
  rw [this]
theorem VI.row {W : World} {m : Nat} {L : List Int} (h : VI W m L) (hl : L.length ≤ 1000) : RwI W 3 0 (.slice (some ⟨m, 0, none⟩) L.length L.length) L := by
  refine ⟨by simp, .inr ⟨m, L.length, _, rfl, Nat.zero_le _, h, Nat.le_refl _, by unfold maxLen; omega, by simp, ?_⟩⟩
  simp [List.take_of_length_le]
/-- How far all have the log. -/
def farL (A : Nd) : List Int := (List.range A.all.toNat).map fun (i : Nat) => if (i : Int) = A.me then A.last else (A.upTo i).getD 0
def Nd.counted (A : Nd) : Nd := { A with cm := max A.cm ((srt (farL A))[(A.all.toNat - 1) / 2]?.getD 0) }
theorem infoVI : ∃ i, Tryz.prog.info? 3 = some i ∧ i.zero = some (.int .i64 0) ∧ i.size = 1 ∧ i.bytes = 8 := by
  cases h : Tryz.prog.info? 3 with
  | none =>
    have : (Tryz.prog.info? 3).isSome = true := by kernel_rfl
    rw [h] at this
    cases this
  | some i =>
    have h1 : (Tryz.prog.info? 3).map (·.zero) = some (some (.int .i64 0)) := by kernel_rfl
    have h2 : (Tryz.prog.info? 3).map (·.size) = some 1 := by kernel_rfl
    have h3 : (Tryz.prog.info? 3).map (·.bytes) = some 8 := by kernel_rfl
    rw [h] at h1 h2 h3
    exact ⟨i, rfl, by simpa using h1, by simpa using h2, by simpa using h3⟩
/-- Between two others. -/
structure CcI (w wr : World) (A : Nd) (g n mu it : Nat) (D : DataW Value) (left : Lit → Bool) (cnt : Nat) (Z : List Int) : Prop where
  rg : wr.ranges Tryz.prog 3 hR mu it 8 D left cnt
  far : VI wr g Z
  len : Z.length = n
  at_ : ∀ j, j < n → Z[j]? = some (if left (.int .i64 j) then 0 else (A.upTo j).getD 0)
  low : Below w.heap.size w wr
  sep : w.heap.size ≤ g ∧ g ≠ it ∧ g ≠ mu ∧ w.heap.size ≤ it
theorem CcI.step {w wr w2 : World} {A : Nd} {g n mu it : Nat} {D : DataW Value} {left : Lit → Bool} {cnt : Nat} {Z : List Int} (h : CcI w wr A g n mu it D left cnt Z) {x : Nat} {v : Int} {cnt2 : Nat} (hx : x < n) (hv : A.upTo x = some v) (hg : wr.grownBy w2 (some it)) (hrg : w2.ranges Tryz.prog 3 hR mu it 8 D (fun z => left z && !z.sameKey (.int .i64 x)) cnt2) :
    CcI w (w2.setCell ⟨g, x, none⟩ (.int .i64 v)) A g n mu it D (fun z => left z && !z.sameKey (.int .i64 x)) cnt2 (Z.set x v) ∧ w2.cell? ⟨g, x, none⟩ = some (.int .i64 (Z[x]?.getD 0)) ∧ w2.frozen? ⟨g, x, none⟩ = false := by
  obtain ⟨s1, s2, s3, s4⟩ := h.sep
  have f2 : Fr wr w2 (fun k => k = it) := Fr.grown hg (fun k hk => by cases hk; rfl)
  have v2 := h.far.kept f2 s2
  have hl := h.len
  have hc := v2.cell (j := x) (by omega)
  have fs : Fr w2 (w2.setCell ⟨g, x, none⟩ (.int .i64 v)) (fun k => k = g) := Fr.setCell (S := fun k => k = g) _ ⟨g, x, none⟩ _ rfl
  refine ⟨⟨?_, v2.set x v, by rw [List.length_set]; exact h.len, fun j hj => ?_, ?_, h.sep⟩, ?_, hc.2⟩
  · exact hrg.kept (row := some g) ⟨fs.os, fs.tape, fs.output, fs.size, fun k hk hn => fs.block k hk (fun e => hn (by rw [e]))⟩ (fun e => by cases e; exact s3 rfl) (fun e => by cases e; exact s2 rfl)
  · rw [List.getElem?_set]
    by_cases e : x = j
    · subst e
      rw [if_pos rfl, if_pos (by omega)]
      have : (Lit.int .i64 (x : Int)).sameKey (.int .i64 (x : Int)) = true := by simp [Lit.sameKey]
      simp [this, hv]
    · rw [if_neg e, h.at_ j hj]
      have : (Lit.int .i64 (j : Int)).sameKey (.int .i64 (x : Int)) = false := sameKey_ne (vkey_ne (by omega))
      simp [this]
  · have b2 : Below w.heap.size w w2 := h.low.trans (f2.below h.low.size (fun k e => by omega))
    exact b2.trans (fs.below b2.size (fun k e => by omega))
  · rw [hc.1, List.getElem?_eq_getElem (by omega)]
    rfl
theorem farL_of {A : Nd} {n : Nat} {Z : List Int} (hn : A.all = n) (hm0 : 0 ≤ A.me) (hl : Z.length = n) (hF : ∀ j, j < n → Z[j]? = some ((A.upTo j).getD 0)) : Z.set A.me.toNat A.last = farL A := by
  apply List.ext_getElem?
  intro j
  unfold farL
  rw [hn, Int.toNat_natCast]
  by_cases hj : j < n
  · rw [List.getElem?_set, List.getElem?_map, List.getElem?_range hj]
    by_cases e : A.me.toNat = j
    · rw [if_pos e, if_pos (by omega)]
      have : (j : Int) = A.me := by omega
      simp [this]
    · rw [if_neg e, hF j hj]
      have : ¬ (j : Int) = A.me := by omega
      simp [this]
  · rw [List.getElem?_eq_none (by rw [List.length_set]; omega), List.getElem?_eq_none (by simp; omega)]
theorem farL_len (A : Nd) : (farL A).length = A.all.toNat := by simp [farL]
section
variable {w : World} {S : Nat → Prop} {p : Nat} {A : Nd} {lv : Value} {mw mg mu mk : Nat}
set_option maxRecDepth 100000 in
set_option maxHeartbeats 2000000 in
theorem count_any (h : NA w S p A lv mw mg mu mk) (ok : A.ok) (hu : ∀ x v, A.upTo x = some v → 0 ≤ x ∧ x < A.all) : Calls Tryz.prog 72 #[.pointer (some ⟨p, 0, none⟩)] w fun r w' => r = .returned (.tuple #[]) ∧ NA w' S p A.counted lv mw mg mu mk ∧ Fr w w' (fun k => k = p) := by
  obtain ⟨i0, hi, hz0, hz1, hz2⟩ := infoVI
  have HH : Hid (NA w S p A lv mw mg mu mk) := h
  have HO : Hid A.ok := ok
  have HU : Hid (∀ x v, A.upTo x = some v → 0 ≤ x ∧ x < A.all) := hu
  obtain ⟨n, hn⟩ : ∃ n : Nat, A.all = n := ⟨A.all.toNat, by have := ok.all0; omega⟩
  have HN : Hid (A.all = n) := hn
  have hn1 : 1 ≤ n := by have := ok.all0; omega
  have hn7 : n ≤ 7 := by have := ok.all1; omega
  obtain ⟨me, hme⟩ : ∃ m : Nat, A.me = m := ⟨A.me.toNat, by have := ok.me0; omega⟩
  have HME : Hid (A.me = me) := hme
  have hmn : me < n := by have := ok.me1; omega
  obtain ⟨c0, c1, _, _, _, _, _, _, c8, _, _, _, _, _, c14, _⟩ := h.cells
  rw [hn] at c1
  rw [hme] at c0
  obtain ⟨D, hD, hDm⟩ := h.upTo.tight
  have HDm : Hid _ := hDm
  have hmk : ∀ W : World, (Instr.makeSlice 61 (.int .i64 (n : Int)) (.int .i64 (n : Int))).run Tryz.prog W = .ok (.slice (some ⟨W.heap.size, 0, none⟩) n n) (W.alloc (.cells (madeCells #[.int .i64 0] n) 3)) := fun W => by
    have := run_make (P := Tryz.prog) W 61 3 i0 (.int .i64 0) Tryz.underlying61 hi hz0 .i64 .i64 n n (by omega) (by omega) (by rw [hz2]; omega) (by omega)
    simpa [hz1, Value.cells] using this
  clear h ok hu hn hme hDm
  go_enter Tryz.func72, Tryz.ntmps72
  go_upto_region 1 with (fail)
  generalize hW : World.alloc _ _ = W
  have hB : Below w.heap.size w W := by rw [← hW]; exact vone_new w _
  have hV : VI W w.heap.size (List.replicate n 0) := by rw [← hW]; exact VI.made w n
  have hDW : W.ownsMap Tryz.prog 3 hR mu 8 D := by rw [← hW]; exact hD.alloc _
  have d14 := (hB.cell (p := ⟨p, 14, none⟩) (vlt_cell c14)).trans c14
  have hsz : W.heap.size = w.heap.size + 1 := by rw [← hW]; simp
  have HB : Hid (Below w.heap.size w W) := hB
  have HV : Hid (VI W w.heap.size (List.replicate n 0)) := hV
  have HDW : Hid (W.ownsMap Tryz.prog 3 hR mu 8 D) := hDW
  have HSz : Hid (W.heap.size = w.heap.size + 1) := hsz
  have hmul : mu < w.heap.size := hD.lt
  clear hW hB hV hDW hsz c14 hmk hD hi hz0 hz1 hz2
  obtain ⟨g, hg⟩ : ∃ g, w.heap.size = g := ⟨_, rfl⟩
  rw [hg]
  have HG : Hid (w.heap.size = g) := hg
  rw [hg] at hmul
  clear hg
  go_upto_block 0 with (at_range; refine wpList_range_own _ rfl _ 109 rfl 3 3 vlaw Tryz.underlying109 hR mu 8 D rfl HDW.out ?_; intro w0 hrg0 hg0 hs0)
  have hI0 : CcI w w0 A g n mu W.heap.size D (Maps.has D) (Maps.size D) (List.replicate n 0) := by
    have hG := HG.out
    have hB := HB.out
    have f0 : Fr W w0 (fun _ => False) := Fr.grown hg0 (fun k hk => by cases hk)
    refine ⟨hrg0, (by have := HV.out; rw [hG] at this; exact this.kept f0 (fun h => h)), by simp, fun j hj => ?_, hB.trans (f0.below hB.size (fun k hk => hk.elim)), by have := HSz.out; refine ⟨by omega, by omega, by omega, by omega⟩⟩
    rw [List.getElem?_replicate, if_pos hj, HDm.out.has]
    cases e : A.upTo j with
    | none => simp [upF, e]
    | some v => simp [upF, e]
  have HI0 : Hid (CcI w w0 A g n mu W.heap.size D (Maps.has D) (Maps.size D) (List.replicate n 0)) := hI0
  clear hrg0 hg0 hs0 hI0 HDW HV HSz d14
  generalize W.heap.size = it at *
  go_frame
  go_cut [2] (fun u wx => u = .slice (some ⟨g, 0, none⟩) n n ∧ ∃ Z, VI wx g Z ∧ Z.length = n ∧ (∀ j, j < n → Z[j]? = some ((A.upTo j).getD 0)) ∧ Below w.heap.size w wx)
  case first =>
    go_wp2
    go_loopw [3] (fun _ wr => ∃ left cnt Z, CcI w wr A g n mu it D left cnt Z) (fun _ wr => wr.rangeLeft mu it)
    case atStart => exact ⟨_, _, _, HI0.out⟩
    case round =>
      obtain ⟨left, cnt, Z, hI⟩ := hrel
      have HI : Hid (CcI w wr A g n mu it D left cnt Z) := hI
      have HR : Hid _ := hI.rg
      clear hI HI0
      go_wp2_with (at_next; refine wpList_next_ranges _ rfl _ rfl 3 vlaw hR (Value.int .i64) (fun v : Value => v) (fun key kl hkey => by obtain ⟨x, rfl, _⟩ := Maps.keyOf_int_inv Tryz.underlying3 hkey; exact ⟨x, rfl⟩) (fun v y _ => ⟨v, rfl⟩) mu it 8 D left cnt rfl HR.out ?_ ?_)
      · intro _ hnone
        have HE : Hid _ := hnone
        clear hnone
        go_wp2
        go_meet
        refine ⟨rfl, Z, HI.out.far, HI.out.len, fun j hj => ?_, HI.out.low⟩
        have := HI.out.at_ j hj
        rw [HE.out] at this
        simpa using this
      · intro x c kl y y' w2 cnt2 hkey hlk hv hat hrg2 hlt hg2 hs2 hen
        obtain ⟨x', ex, rfl, hwx⟩ := Maps.keyOf_int_inv (P := Tryz.prog) Tryz.underlying3 hkey
        cases ex
        have hc : ∃ v, A.upTo x = some v ∧ c = .int .i64 v := by
          have h1 := hat (.held (.int .i64 0))
          rw [HDm.out.at_] at h1
          cases hv
          simp only [DataW.held.injEq] at h1
          cases e : A.upTo x with
          | none =>
            have h2 := hat (.held (.bool false))
            rw [HDm.out.at_] at h2
            simp only [DataW.held.injEq, upF, e] at h1 h2
            rw [← h1] at h2
            cases h2
          | some v =>
            simp only [upF, e, Option.map_some, Option.getD_some] at h1
            exact ⟨v, rfl, h1.symm⟩
        obtain ⟨v, hv2, rfl⟩ := hc
        have hx := HU.out x v hv2
        rw [HN.out] at hx
        obtain ⟨xn, rfl⟩ : ∃ xn : Nat, x = xn := ⟨x.toNat, by omega⟩
        obtain ⟨st, sc, sf⟩ := HI.out.step (by omega) hv2 hg2 hrg2
        have hx2 : (xn : Int) < n := hx.2
        have HS : Hid (CcI w (w2.setCell ⟨g, xn, none⟩ (.int .i64 v)) A g n mu it D (fun z => left z && !z.sameKey (.int .i64 xn)) cnt2 (Z.set xn v)) := st
        have HLt : Hid _ := hlt
        clear hkey hlk hv hat hrg2 hg2 hwx hv2 hx st
        go_wp2
        go_roundw
        case rel => exact ⟨_, _, _, HS.out⟩
        case measure => rw [World.ranges.left_eq HS.out.rg, World.ranges.left_eq HR.out]; exact HLt.out
  case rest =>
    obtain ⟨rfl, Z, hF, hFl, hFa, hFb⟩ := hcut
    have HF2 : Hid (Z.set me A.last = farL A) := by
      have := farL_of HN.out HO.out.me0 hFl hFa
      rw [HME.out, Int.toNat_natCast] at this
      exact this
    have hD2 := HH.out.new hFb
    have hV2 : VI wc g Z := hF
    have s0 : w.heap.size = g := HG.out
    clear hFa HI0 HDm HU c0 c1 c8 hF
    obtain ⟨Wd, hWd⟩ : ∃ Wd, wc.drew = Wd := ⟨_, rfl⟩
    have bd : Below wc.heap.size wc Wd := by rw [← hWd]; exact Below.drew (Below.refl _ _)
    have hD3 := hD2.new bd
    have hV3 := hV2.new bd
    obtain ⟨c0, c1, _, _, _, _, _, _, c8, _⟩ := hD3.cells
    rw [HN.out] at c1
    rw [HME.out] at c0
    have HB3 : Hid (Below g w Wd) := by show Below g w Wd; rw [← s0]; exact hFb.trans (bd.mono hFb.size)
    have HD3 : Hid (NA Wd S p A lv mw mg mu mk) := hD3
    have HV3 : Hid (VI Wd g Z) := hV3
    have HFL : Hid (Z.length = n) := hFl
    clear hD2 hV2 hD3 hV3 hFb hFl s0
    have hm0 : (0 : Int) ≤ me := by omega
    have hm1 : (me : Int) < n := by omega
    go_upto_region 5 with (fail)
    refine wp_calmV ?_
    refine wp_region_L [8] (fun w' : World => w'.cell? ⟨p, 0, none⟩ = some (.int .i64 (me : Int))) (by kernel_rfl) ?_
    rw [hWd]
    clear hWd bd
    have hS : (fun w' : World => w'.cell? ⟨p, 0, none⟩ = some (.int .i64 (me : Int))) Wd := c0
    refine wpAnyL_take (i := 0) 25 (v := .slice (some ⟨g, 0, none⟩) n n) rfl rfl (by kernel_rfl) (by kernel_rfl) (by kernel_rfl) (by kernel_rfl) (by kernel_rfl) (by kernel_rfl) (fun _ _ _ h => h) hS (by rfl) (by intro w' hSw; have y0 := hSw; go_simp <;> with_reducible rfl) ?_
    simp only [Act.put, List.setIfInBounds_toArray, List.set_cons_zero, List.set_cons_succ]
    refine wpAnyL_take (i := 1) 26 (v := .pointer (some ⟨p, 0, none⟩)) rfl rfl (by kernel_rfl) (by kernel_rfl) (by kernel_rfl) (by kernel_rfl) (by kernel_rfl) (by kernel_rfl) (fun _ _ _ h => h) hS (by rfl) (by intro w' hSw; have y0 := hSw; go_simp <;> with_reducible rfl) ?_
    simp only [Act.put, List.setIfInBounds_toArray, List.set_cons_zero, List.set_cons_succ]
    refine wpAnyL_take (i := 2) 27 (v := .pointer (some ⟨p, 0, none⟩)) rfl rfl (by kernel_rfl) (by kernel_rfl) (by kernel_rfl) (by kernel_rfl) (by kernel_rfl) (by kernel_rfl) (fun _ _ _ h => h) hS (by rfl) (by intro w' hSw; have y0 := hSw; go_simp <;> with_reducible rfl) ?_
    simp only [Act.put, List.setIfInBounds_toArray, List.set_cons_zero, List.set_cons_succ]
    refine wpAnyL_take (i := 3) 28 (v := .pointer (some ⟨p, 0, none⟩)) rfl rfl (by kernel_rfl) (by kernel_rfl) (by kernel_rfl) (by kernel_rfl) (by kernel_rfl) (by kernel_rfl) (fun _ _ _ h => h) hS (by rfl) (by intro w' hSw; have y0 := hSw; go_simp <;> with_reducible rfl) ?_
    simp only [Act.put, List.setIfInBounds_toArray, List.set_cons_zero, List.set_cons_succ]
    refine wpAnyL_take (i := 4) 29 (v := .int .i64 (me : Int)) rfl rfl (by kernel_rfl) (by kernel_rfl) (by kernel_rfl) (by kernel_rfl) (by kernel_rfl) (by kernel_rfl) (fun _ _ _ h => h) hS (by rfl) (by intro w' hSw; have y0 := hSw; go_simp <;> with_reducible rfl) ?_
    simp only [Act.put, List.setIfInBounds_toArray, List.set_cons_zero, List.set_cons_succ]
    refine wpAnyL_take (i := 5) 30 (v := .pointer (some ⟨p, 0, none⟩)) rfl rfl (by kernel_rfl) (by kernel_rfl) (by kernel_rfl) (by kernel_rfl) (by kernel_rfl) (by kernel_rfl) (fun _ _ _ h => h) hS (by rfl) (by intro w' hSw; have y0 := hSw; go_simp <;> with_reducible rfl) ?_
    simp only [Act.put, List.setIfInBounds_toArray, List.set_cons_zero, List.set_cons_succ]
    refine wpAnyL_one (i := 6) (by kernel_rfl) rfl (fun Ka hKa => ?_)
    go_simp
    refine Calls.mono (last_any HD3.out HO.out) ?_
    rintro r w5 ⟨rfl, q5, rfl⟩
    refine hKa.out _ _ (fun _ => hS) ?_
    clear hKa Ka
    try simp only [Act.put, List.setIfInBounds_toArray, List.set_cons_zero, List.set_cons_succ]
    obtain ⟨w5, hw5⟩ : ∃ w5, Wd.drewN q5 = w5 := ⟨_, rfl⟩
    have b5 : Below Wd.heap.size Wd w5 := by rw [← hw5]; exact below_dn _ _
    rw [hw5]
    have hS5 : (fun w' : World => w'.cell? ⟨p, 0, none⟩ = some (.int .i64 (me : Int))) w5 := by rw [← hw5]; exact hS
    refine wpAnyL_take (i := 7) 32 (v := .pointer (some ⟨g, me, none⟩)) rfl rfl (by kernel_rfl) (by kernel_rfl) (by kernel_rfl) (by kernel_rfl) (by kernel_rfl) (by kernel_rfl) (fun _ _ _ h => h) hS5 (by rfl) (by intro w' hSw; have y0 := hSw; go_simp <;> with_reducible rfl) ?_
    simp only [Act.put, List.setIfInBounds_toArray, List.set_cons_zero, List.set_cons_succ]
    have hV5 := HV3.out.new b5
    have hC5 := hV5.cell (j := me) (by have := HFL.out; omega)
    obtain ⟨fv, e1⟩ : ∃ fv, w5.cell? ⟨g, me, none⟩ = some (.int .i64 fv) := ⟨_, hC5.1⟩
    have e2 := hC5.2
    clear hC5
    have HV5 : Hid (VI (w5.setCell ⟨g, me, none⟩ (.int .i64 A.last)) g (farL A)) := by have := hV5.set me A.last; rw [HF2.out] at this; exact this
    have HB5 : Hid (Below g w (w5.setCell ⟨g, me, none⟩ (.int .i64 A.last))) := by
      have hb := HB3.out.trans (b5.mono (by have := HB3.out.size; have := HG.out; omega))
      exact hb.trans (Fr.below (Fr.setCell (S := fun k => k = g) _ ⟨g, me, none⟩ _ rfl) (by have := hb.size; have := HG.out; omega) (fun k e => by omega))
    clear hw5 b5 hV5 hS hS5 HV3 HB3 HF2 HFL c0 c1 c8
    refine wpAnyL_one (i := 8) (by kernel_rfl) rfl (fun Kb hKb => ?_)
    go_simp
    refine hKb.out _ _ (fun h => absurd h (Bool.eq_false_iff.1 (by kernel_rfl))) ?_
    clear hKb Kb
    refine wpAnyL_done (by kernel_rfl) ?_ _
    obtain ⟨w6, hw6⟩ : ∃ w6, w5.setCell ⟨g, me, none⟩ (.int .i64 A.last) = w6 := ⟨_, rfl⟩
    rw [hw6] at HV5 HB5 ⊢
    clear hw6 e1 e2
    have hfl := farL_len A
    rw [HN.out, Int.toNat_natCast] at hfl
    have HR : Hid (RwI w6 3 0 (.slice (some ⟨g, 0, none⟩) n n) (farL A)) := by
      have := HV5.out.row (by omega)
      rw [hfl] at this
      exact this
    have HFl : Hid ((farL A).length = n) := hfl
    clear hfl
    go_upto_region 7 with (go_at_call 109; refine (sortInt_row (by have := HFl.out; omega) HR.out).mono ?_; rintro r w7 ⟨rfl, hR7, hF7⟩)
    obtain ⟨Wd, hWd⟩ : ∃ Wd, w7.drew = Wd := ⟨_, rfl⟩
    have bd : Below w7.heap.size w7 Wd := by rw [← hWd]; exact Below.drew (Below.refl _ _)
    have s0 := HG.out
    have hb7 : Below g w w7 := HB5.out.trans (hF7.below (by have := HB5.out.size; omega) (fun k e => by cases e; exact Nat.le_refl _))
    have hbd : Below g w Wd := hb7.trans (bd.mono (by have := hb7.size; omega))
    have hD8 := HH.out.new (by rw [s0]; exact hbd)
    have hR8 := ri_new hR7 bd
    have hra := (ri_at hR8).2
    have hsl : (srt (farL A)).length = n := by rw [srt_len, HFl.out]
    obtain ⟨g', eg, _, hcell⟩ := hra (by omega)
    cases eg
    obtain ⟨m, hm⟩ : ∃ m, (n - 1) / 2 = m := ⟨_, rfl⟩
    have hmn2 : m < n := by omega
    obtain ⟨xg, _⟩ := hcell m (by omega)
    obtain ⟨fm, hfm⟩ : ∃ fm, (srt (farL A))[m]'(by omega) = fm := ⟨_, rfl⟩
    rw [hfm] at xg
    have HC : Hid (A.counted.cm = max A.cm fm) := by
      show max A.cm ((srt (farL A))[(A.all.toNat - 1) / 2]?.getD 0) = _
      rw [HN.out, Int.toNat_natCast, hm, List.getElem?_eq_getElem (by omega), hfm]
      rfl
    obtain ⟨_, c1, _, _, _, _, _, _, c8, _⟩ := hD8.cells
    rw [HN.out] at c1
    have f8 := hD8.free 8
    have HD8 : Hid (NA Wd S p A lv mw mg mu mk) := hD8
    have HBd : Hid (Below g w Wd) := hbd
    clear hR7 hF7 bd hb7 hbd hD8 hR8 hcell HR HB5 HV5 HFl HH HD3 s0 hfm HO
    have hmI : ((n : Int) - 1) / 2 = m := by omega
    clear hm hsl hra
    have hq1 : IntKind.i64.wrap ((n : Int) - 1) = (n : Int) - 1 := IntWalk.i64_in _ (by omega)
    have hq2 : ((n : Int) - 1).tdiv 2 = m := by rw [Int.tdiv_eq_ediv_of_nonneg (by omega)]; exact hmI
    have hq4 : IntKind.i64.wrap (m : Int) = m := IntWalk.i64_in _ (by omega)
    have hmi : (m : Int) < n := by omega
    have hmi0 : (0 : Int) ≤ m := by omega
    generalize A.cm = cm at c8 HC
    refine wp_calmV ?_
    refine wp_region_L [17] (fun w' : World => w'.cell? ⟨p, 8, none⟩ = some (.int .i64 cm) ∧ w'.cell? ⟨p, 1, none⟩ = some (.int .i64 (n : Int)) ∧ w'.cell? ⟨g, m, none⟩ = some (.int .i64 fm)) (by kernel_rfl) ?_
    rw [hWd]
    clear hWd
    have hS : (fun w' : World => w'.cell? ⟨p, 8, none⟩ = some (.int .i64 cm) ∧ w'.cell? ⟨p, 1, none⟩ = some (.int .i64 (n : Int)) ∧ w'.cell? ⟨g, m, none⟩ = some (.int .i64 fm)) Wd := ⟨c8, c1, xg⟩
    refine wpAnyL_take (i := 0) 35 (v := .pointer (some ⟨p, 0, none⟩)) rfl rfl (by kernel_rfl) (by kernel_rfl) (by kernel_rfl) (by kernel_rfl) (by kernel_rfl) (by kernel_rfl) (fun _ _ _ h => h) hS (by rfl) (by intro w' hSw; obtain ⟨y0, y1, y2⟩ := hSw; go_simp <;> with_reducible rfl) ?_
    simp only [Act.put, List.setIfInBounds_toArray, List.set_cons_zero, List.set_cons_succ]
    refine wpAnyL_take (i := 1) 36 (v := .pointer (some ⟨p, 0, none⟩)) rfl rfl (by kernel_rfl) (by kernel_rfl) (by kernel_rfl) (by kernel_rfl) (by kernel_rfl) (by kernel_rfl) (fun _ _ _ h => h) hS (by rfl) (by intro w' hSw; obtain ⟨y0, y1, y2⟩ := hSw; go_simp <;> with_reducible rfl) ?_
    simp only [Act.put, List.setIfInBounds_toArray, List.set_cons_zero, List.set_cons_succ]
    refine wpAnyL_take (i := 2) 37 (v := .pointer (some ⟨p, 0, none⟩)) rfl rfl (by kernel_rfl) (by kernel_rfl) (by kernel_rfl) (by kernel_rfl) (by kernel_rfl) (by kernel_rfl) (fun _ _ _ h => h) hS (by rfl) (by intro w' hSw; obtain ⟨y0, y1, y2⟩ := hSw; go_simp <;> with_reducible rfl) ?_
    simp only [Act.put, List.setIfInBounds_toArray, List.set_cons_zero, List.set_cons_succ]
    refine wpAnyL_take (i := 3) 38 (v := .pointer (some ⟨p, 8, none⟩)) rfl rfl (by kernel_rfl) (by kernel_rfl) (by kernel_rfl) (by kernel_rfl) (by kernel_rfl) (by kernel_rfl) (fun _ _ _ h => h) hS (by rfl) (by intro w' hSw; obtain ⟨y0, y1, y2⟩ := hSw; go_simp <;> with_reducible rfl) ?_
    simp only [Act.put, List.setIfInBounds_toArray, List.set_cons_zero, List.set_cons_succ]
    refine wpAnyL_take (i := 4) 39 (v := .int .i64 cm) rfl rfl (by kernel_rfl) (by kernel_rfl) (by kernel_rfl) (by kernel_rfl) (by kernel_rfl) (by kernel_rfl) (fun _ _ _ h => h) hS (by rfl) (by intro w' hSw; obtain ⟨y0, y1, y2⟩ := hSw; go_simp <;> with_reducible rfl) ?_
    simp only [Act.put, List.setIfInBounds_toArray, List.set_cons_zero, List.set_cons_succ]
    refine wpAnyL_take (i := 5) 40 (v := .slice (some ⟨g, 0, none⟩) n n) rfl rfl (by kernel_rfl) (by kernel_rfl) (by kernel_rfl) (by kernel_rfl) (by kernel_rfl) (by kernel_rfl) (fun _ _ _ h => h) hS (by rfl) (by intro w' hSw; obtain ⟨y0, y1, y2⟩ := hSw; go_simp <;> with_reducible rfl) ?_
    simp only [Act.put, List.setIfInBounds_toArray, List.set_cons_zero, List.set_cons_succ]
    refine wpAnyL_take (i := 6) 41 (v := .pointer (some ⟨p, 0, none⟩)) rfl rfl (by kernel_rfl) (by kernel_rfl) (by kernel_rfl) (by kernel_rfl) (by kernel_rfl) (by kernel_rfl) (fun _ _ _ h => h) hS (by rfl) (by intro w' hSw; obtain ⟨y0, y1, y2⟩ := hSw; go_simp <;> with_reducible rfl) ?_
    simp only [Act.put, List.setIfInBounds_toArray, List.set_cons_zero, List.set_cons_succ]
    refine wpAnyL_take (i := 7) 42 (v := .pointer (some ⟨p, 0, none⟩)) rfl rfl (by kernel_rfl) (by kernel_rfl) (by kernel_rfl) (by kernel_rfl) (by kernel_rfl) (by kernel_rfl) (fun _ _ _ h => h) hS (by rfl) (by intro w' hSw; obtain ⟨y0, y1, y2⟩ := hSw; go_simp <;> with_reducible rfl) ?_
    simp only [Act.put, List.setIfInBounds_toArray, List.set_cons_zero, List.set_cons_succ]
    refine wpAnyL_take (i := 8) 43 (v := .pointer (some ⟨p, 1, none⟩)) rfl rfl (by kernel_rfl) (by kernel_rfl) (by kernel_rfl) (by kernel_rfl) (by kernel_rfl) (by kernel_rfl) (fun _ _ _ h => h) hS (by rfl) (by intro w' hSw; obtain ⟨y0, y1, y2⟩ := hSw; go_simp <;> with_reducible rfl) ?_
    simp only [Act.put, List.setIfInBounds_toArray, List.set_cons_zero, List.set_cons_succ]
    refine wpAnyL_take (i := 9) 44 (v := .int .i64 (n : Int)) rfl rfl (by kernel_rfl) (by kernel_rfl) (by kernel_rfl) (by kernel_rfl) (by kernel_rfl) (by kernel_rfl) (fun _ _ _ h => h) hS (by rfl) (by intro w' hSw; obtain ⟨y0, y1, y2⟩ := hSw; go_simp <;> with_reducible rfl) ?_
    simp only [Act.put, List.setIfInBounds_toArray, List.set_cons_zero, List.set_cons_succ]
    refine wpAnyL_take (i := 10) 45 (v := .int .i64 ((n : Int) - 1)) rfl rfl (by kernel_rfl) (by kernel_rfl) (by kernel_rfl) (by kernel_rfl) (by kernel_rfl) (by kernel_rfl) (fun _ _ _ h => h) hS (by rfl) (by intro w' hSw; obtain ⟨y0, y1, y2⟩ := hSw; go_simp <;> with_reducible rfl) ?_
    simp only [Act.put, List.setIfInBounds_toArray, List.set_cons_zero, List.set_cons_succ]
    refine wpAnyL_take (i := 11) 46 (v := .int .i64 (m : Int)) rfl rfl (by kernel_rfl) (by kernel_rfl) (by kernel_rfl) (by kernel_rfl) (by kernel_rfl) (by kernel_rfl) (fun _ _ _ h => h) hS (by rfl) (by intro w' hSw; obtain ⟨y0, y1, y2⟩ := hSw; go_simp <;> with_reducible rfl) ?_
    simp only [Act.put, List.setIfInBounds_toArray, List.set_cons_zero, List.set_cons_succ]
    refine wpAnyL_take (i := 12) 47 (v := .pointer (some ⟨g, m, none⟩)) rfl rfl (by kernel_rfl) (by kernel_rfl) (by kernel_rfl) (by kernel_rfl) (by kernel_rfl) (by kernel_rfl) (fun _ _ _ h => h) hS (by rfl) (by intro w' hSw; obtain ⟨y0, y1, y2⟩ := hSw; go_simp <;> with_reducible rfl) ?_
    simp only [Act.put, List.setIfInBounds_toArray, List.set_cons_zero, List.set_cons_succ]
    refine wpAnyL_take (i := 13) 48 (v := .int .i64 fm) rfl rfl (by kernel_rfl) (by kernel_rfl) (by kernel_rfl) (by kernel_rfl) (by kernel_rfl) (by kernel_rfl) (fun _ _ _ h => h) hS (by rfl) (by intro w' hSw; obtain ⟨y0, y1, y2⟩ := hSw; go_simp <;> with_reducible rfl) ?_
    simp only [Act.put, List.setIfInBounds_toArray, List.set_cons_zero, List.set_cons_succ]
    refine wpAnyL_take (i := 14) 49 (v := .int .i64 (max cm fm)) rfl rfl (by kernel_rfl) (by kernel_rfl) (by kernel_rfl) (by kernel_rfl) (by kernel_rfl) (by kernel_rfl) (fun _ _ _ h => h) hS (by rfl) (by intro w' hSw; obtain ⟨y0, y1, y2⟩ := hSw; go_simp <;> with_reducible rfl) ?_
    simp only [Act.put, List.setIfInBounds_toArray, List.set_cons_zero, List.set_cons_succ]
    refine wpAnyL_take (i := 15) 50 (v := .pointer (some ⟨p, 0, none⟩)) rfl rfl (by kernel_rfl) (by kernel_rfl) (by kernel_rfl) (by kernel_rfl) (by kernel_rfl) (by kernel_rfl) (fun _ _ _ h => h) hS (by rfl) (by intro w' hSw; obtain ⟨y0, y1, y2⟩ := hSw; go_simp <;> with_reducible rfl) ?_
    simp only [Act.put, List.setIfInBounds_toArray, List.set_cons_zero, List.set_cons_succ]
    refine wpAnyL_take (i := 16) 51 (v := .pointer (some ⟨p, 8, none⟩)) rfl rfl (by kernel_rfl) (by kernel_rfl) (by kernel_rfl) (by kernel_rfl) (by kernel_rfl) (by kernel_rfl) (fun _ _ _ h => h) hS (by rfl) (by intro w' hSw; obtain ⟨y0, y1, y2⟩ := hSw; go_simp <;> with_reducible rfl) ?_
    simp only [Act.put, List.setIfInBounds_toArray, List.set_cons_zero, List.set_cons_succ]
    refine wpAnyL_one (i := 17) (by kernel_rfl) rfl (fun Ka hKa => ?_)
    go_simp
    refine hKa.out _ _ (fun h => absurd h (Bool.eq_false_iff.1 (by kernel_rfl))) ?_
    clear hKa Ka
    refine wpAnyL_done (by kernel_rfl) ?_ _
    go_wp2
    go_end0
    have hE := HD8.out.setP 8 (.int .i64 (max cm fm)) (A' := A.counted) (by rw [← HC.out]; rfl) rfl rfl rfl rfl
    refine ⟨rfl, hE.1, ?_⟩
    have hb := HBd.out
    rw [← HG.out] at hb
    exact (Fr.ofBelow hb (fun k => k = p)).trans hE.2 (fun _ _ h => h)
end
end Go.Proofs.YtnhjflebaeokeaaGreat
