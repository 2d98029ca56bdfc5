/- The statement DiskSynced, as a call: it returns true. -/
import Derived.Test.YthpojidkmmflhaaDkOne
namespace Go.Proofs.Ythpojidkmmflhaa
open Go.RowKit Go.Maps
attribute [local go_sem] Oper.semAt_some
/-- An act, as a value's parts. -/
structure ActS where
  k : Int
  nm : Bs
  tt : Bs
  s : Bs
  f0 : Int
  f1 : Int
  f2 : Int
  pa : Option Addr
  pn : Nat
  pc : Nat
def ActsS (w : World) (b off : Nat) (L : List ActS) : Prop := ∀ j (h : j < L.length), w.cell? ⟨b, off + j * 8, none⟩ = some (.int .i64 L[j].k) ∧ w.cell? ⟨b, off + j * 8 + 1, none⟩ = some (.string (str L[j].nm)) ∧ w.cell? ⟨b, off + j * 8 + 2, none⟩ = some (.string (str L[j].tt)) ∧ w.cell? ⟨b, off + j * 8 + 3, none⟩ = some (.string (str L[j].s)) ∧ w.cell? ⟨b, off + j * 8 + 4, none⟩ = some (.int .i64 L[j].f0) ∧ w.cell? ⟨b, off + j * 8 + 5, none⟩ = some (.int .i64 L[j].f1) ∧ w.cell? ⟨b, off + j * 8 + 6, none⟩ = some (.int .i64 L[j].f2) ∧ w.cell? ⟨b, off + j * 8 + 7, none⟩ = some (.slice L[j].pa L[j].pn L[j].pc)
structure ActS.ok (y : ActS) : Prop where
  k0 : -9223372036854775808 ≤ y.k
  k1 : y.k ≤ 9223372036854775807
  nm : y.nm.length ≤ 140737488355328
  tt : y.tt.length ≤ 140737488355328
  s : y.s.length ≤ 140737488355328
def oth : Bs := [111, 116, 104, 101, 114, 45, 102, 105, 108, 101]
def cO : Chg := ⟨0, oth, [], [120]⟩
theorem take_x (t : Int) (h : 0 < t) : ([120] : Bs).take t.toNat = [120] := List.take_of_length_le (by simp; omega)
/-- What is there behind the fall. -/
theorem fail_O (N : Fl) (keep tn : Int) : failF N [cO] keep tn = N ∨ failF N [cO] keep tn = putF oth (ofF oth N ++ [120]) N := by
  unfold failF
  split
  · rename_i h
    have e0 : cutN keep [cO].length = 0 := by
      have h2 : cutN keep 1 < 1 := h
      show cutN keep 1 = 0
      omega
    split
    · right
      rename_i hh
      have : doF (doneF N ([cO].take (cutN keep [cO].length))) (tornC [cO][cutN keep [cO].length] tn) = doF (doneF N ([cO].take 0)) (tornC [cO][0] tn) := by simp only [e0]
      rw [this]
      show putF oth (ofF oth N ++ ([120] : Bs).take tn.toNat) N = _
      rw [take_x tn hh.1]
    · left
      rw [e0]
      rfl
  · rename_i h
    have e1 : cutN keep [cO].length = 1 := by
      have h2 : ¬ cutN keep 1 < 1 := h
      have h3 := cutN_le keep 1
      show cutN keep 1 = 1
      omega
    right
    rw [e1]
    rfl
theorem len_putF_ge (k v : Bs) (l : Fl) : l.length ≤ (putF k v l).length := by
  rw [putF_is]
  have := posF_le k l
  simp
  split
  · rename_i h
    have : posF k l < l.length := Nat.lt_of_not_le fun hh => by
      rw [getF_end k l (by omega)] at h
      cases h
    omega
  · omega
theorem fail_len (N : Fl) (keep tn : Int) : N.length ≤ (failF N [cO] keep tn).length ∧ (failF N [cO] keep tn).length ≤ N.length + 1 := by
  rcases fail_O N keep tn with h | h
  · rw [h]; omega
  · rw [h]; exact ⟨len_putF_ge _ _ _, len_putF _ _ _⟩
theorem fail_get {N : Fl} (hs : SortF N) (keep tn : Int) {p : Bs × Bs} (hp : p ∈ N) : (getF p.1 (failF N [cO] keep tn)).isSome = true ∧ (¬ p.1 = oth → ofF p.1 (failF N [cO] keep tn) = p.2) := by
  have hg := getF_of_mem hs hp
  rcases fail_O N keep tn with h | h
  · rw [h]
    unfold ofF
    rw [hg]
    exact ⟨rfl, fun _ => rfl⟩
  · rw [h, getF_put hs, ofF_put hs]
    by_cases e : p.1 = oth
    · rw [if_pos e]
      exact ⟨rfl, fun hn => absurd e hn⟩
    · rw [if_neg e, if_neg e]
      unfold ofF
      rw [hg]
      exact ⟨rfl, fun _ => rfl⟩
theorem BdA.sync {A : Dk} {M : Nat} (h : BdA A M) : BdA A.sync (M + sz A.loose) :=
  ⟨h.fit.doneF A.loose, by have := h.sum; show M + sz A.loose + sz [] ≤ _; simp [sz] at *; omega, by have := h.nowl; show A.now.length + 0 ≤ _; omega, h.n⟩
section
variable {w : World} {L : List ActS} {n0 cap : Nat} {ao : Option Addr}
set_option linter.unusedSimpArgs false in
set_option maxRecDepth 100000 in
set_option maxHeartbeats 8000000 in
theorem synced_any (hL : 0 < L.length → ∃ b off, ao = some ⟨b, off, none⟩ ∧ ActsS w b off L) (hok : ∀ y ∈ L, y.ok) (hn : n0 = L.length) (keep tn : Int) : Calls Try.prog 4 #[.slice ao n0 cap, .int .i64 keep, .int .i64 tn] w fun r w' => r = .returned (.bool true) ∧ Below w.heap.size w w' := by
  have hNew := new_any w
  have HAw : Hid (∀ W, Calls Try.prog 7 #[] W fun r w' => r = .returned (.bool true) ∧ Below W.heap.size W w') := awake11
  have HL : Hid (0 < L.length → ∃ b off, ao = some ⟨b, off, none⟩ ∧ ActsS w b off L) := hL
  have HOk : Hid (∀ y ∈ L, y.ok) := hok
  have HN0 : Hid (L.length = n0) := hn.symm
  clear hL hok hn
  go_enter Try.func4, Try.ntmps4
  go_upto_region 5 with (first
    | (go_at_call 6; refine hNew.mono ?_; rintro r w1 ⟨rfl, hD, hb1⟩; have HD1 : Hid (DkAt w1 w.heap.size w.heap.size ⟨[], [], 0, false⟩) := ⟨_, _, _, hD⟩; have HB1 : Hid (Below w.heap.size w w1) := hb1; have hAw := HAw.out w1; clear hD hb1)
    | (go_at_call 7; refine hAw.mono ?_; rintro r w2 ⟨rfl, hb2⟩; have HB2 : Hid (Below w1.heap.size w1 w2) := hb2; clear hb2))
  generalize hW : World.alloc _ _ = W
  have bW : Below w2.heap.size w2 W := by rw [← hW]; exact one_newD _ _
  have HQ : Hid (W.heap[w2.heap.size]? = some (.cells #[.slice none 0 0, .slice none 0 0, .int .i64 ((⟨[], [], 0, false⟩ : Dk).n : Nat), .slice none 0 0, .bool false] 30 (0, 0))) := by show _ = _; rw [← hW]; exact heap_alloc_new _ _
  have b12 := HB2.out.trans (bW.mono HB2.out.size)
  have HBW : Hid (Below w.heap.size w W) := HB1.out.trans (b12.mono HB1.out.size)
  have HDW : Hid (DkAt W w.heap.size w.heap.size ⟨[], [], 0, false⟩) := DkAt.new HD1.out b12
  have HSz : Hid (w.heap.size ≤ w2.heap.size) := Nat.le_trans HB1.out.size HB2.out.size
  obtain ⟨q, hq⟩ : ∃ q, w2.heap.size = q := ⟨_, rfl⟩
  obtain ⟨p, hp⟩ : ∃ p, w.heap.size = p := ⟨_, rfl⟩
  have HPe : Hid (w.heap.size = p) := hp
  rw [hq] at HQ HSz ⊢
  rw [hp] at HDW HSz ⊢
  clear hW bW b12 hq hp HD1 HB1 HB2 hNew hAw
  go_wp2
  go_loopw [7, 9] (fun d i wr => ∃ (j : Nat) (A R : Dk) (la : Option Addr) (lm lc : Nat), j ≤ 40 ∧ i = .int .i64 j ∧ d = .pointer (some ⟨p, 0, none⟩) ∧ DkAt wr p p A ∧ R.sure = [] ∧ ChAt wr (.slice la lm lc) R.loose ∧ wr.heap[q]? = some (.cells #[.slice none 0 0, .slice la lm lc, .int .i64 (R.n : Nat), .slice none 0 0, .bool false] 30 (0, 0)) ∧ PI j A R ∧ FrD p w wr) (fun _ i _ => 40 - (intOf i).toNat)
  case atStart => exact ⟨0, ⟨[], [], 0, false⟩, ⟨[], [], 0, false⟩, none, 0, 0, Nat.zero_le _, rfl, rfl, HDW.out, rfl, ⟨rfl, .inl ⟨rfl, rfl⟩⟩, HQ.out, ⟨rfl, rfl, rfl, rfl, Nat.le_refl _, Nat.le_refl _, Nat.zero_le _, Nat.zero_le _, Nat.le_refl _, Nat.le_refl _, fun c hc => (by cases hc), fun x hx => (by cases hx)⟩, FrD.new HBW.out⟩
  case round =>
    obtain ⟨k, A, R, la, lm, lc, hk40, rfl, rfl, hD, hRs, hC, hQ, hP, hF⟩ := hrel
    have HDk : Hid (DkAt wr p p A) := hD
    have HRs : Hid (R.sure = []) := hRs
    have HC : Hid (ChAt wr (.slice la lm lc) R.loose) := hC
    have HQw : Hid (wr.heap[q]? = some (.cells #[.slice none 0 0, .slice la lm lc, .int .i64 (R.n : Nat), .slice none 0 0, .bool false] 30 (0, 0))) := hQ
    have HP : Hid (PI k A R) := hP
    have HF : Hid (FrD p w wr) := hF
    have HBw : Hid (Below w.heap.size w wr) := by
      have := FrD.below hF (by rw [HPe.out]; exact Nat.le_refl _)
      rw [← HPe.out] at this
      exact this
    clear hD hRs hC hQ hP hF
    by_cases hlt : k < n0 ∧ k < 40
    · obtain ⟨hk1, hk2⟩ := hlt
      have HK2 : Hid (k < 40) := hk2
      have hkl : k < L.length := by rw [HN0.out]; exact hk1
      obtain ⟨b, off, rfl, hacts⟩ := HL.out (by omega)
      obtain ⟨z0, z1, z2, z3, z4, z5, z6, z7⟩ := hacts k hkl
      have hcell : ∀ (i : Nat) (u : Value), w.cell? ⟨b, off + k * 8 + i, none⟩ = some u → wr.cell? ⟨b, off + k * 8 + i, none⟩ = some u := fun i u h => (HBw.out.cell (p := ⟨b, _, none⟩) (lt_cellD h)).trans h
      replace z0 := (HBw.out.cell (p := ⟨b, off + k * 8, none⟩) (lt_cellD z0)).trans z0
      replace z1 := hcell 1 _ z1
      replace z2 := hcell 2 _ z2
      replace z3 := hcell 3 _ z3
      replace z4 := hcell 4 _ z4
      replace z5 := hcell 5 _ z5
      replace z6 := hcell 6 _ z6
      replace z7 := hcell 7 _ z7
      have hyok := HOk.out L[k] (List.getElem_mem hkl)
      have HWlt : Hid (b < w.heap.size) := by
        have h0 := (hacts k hkl).1
        exact lt_cellD h0
      generalize L[k] = y at z0 z1 z2 z3 z4 z5 z6 z7 hyok
      clear hcell hacts hkl
      by_cases hr : 0 ≤ y.k ∧ y.k ≤ 3
      · obtain ⟨hr0, hr3⟩ := hr
        have HOne : Hid (∀ V, Below wr.heap.size wr V → Calls Try.prog 8 #[.pointer (some ⟨p, 0, none⟩), .agg #[.slice none 0 0, .slice la lm lc, .int .i64 (R.n : Nat), .slice none 0 0, .bool false], .agg #[.int .i64 y.k, .string (str y.nm), .string (str y.tt), .string (str y.s), .int .i64 y.f0, .int .i64 y.f1, .int .i64 y.f2, .slice y.pa y.pn y.pc]] V fun r w' => ∃ la2 lm2 lc2 A' R', r = .returned (.tuple #[.pointer (some ⟨p, 0, none⟩), .agg #[.slice none 0 0, .slice la2 lm2 lc2, .int .i64 R'.n, .slice none 0 0, .bool false], .bool true]) ∧ DkAt w' p p A' ∧ R'.sure = R.sure ∧ ChAt w' (.slice la2 lm2 lc2) R'.loose ∧ FrD p V w' ∧ PI (k + 1) A' R') := fun V hV => by
          have hm : (140737488355328 : Nat) ≤ maxLen := by decide
          exact one_any (DkAt.new HDk.out hV) (by have h1 := HBw.out.size; have h2 := hV.size; have h3 := HPe.out; omega) (by rw [HRs.out]; exact ⟨rfl, .inl ⟨rfl, rfl⟩⟩) (row_new HC.out hV) HP.out (by have := HK2.out; omega) (Nat.le_trans hyok.nm hm) (Nat.le_trans hyok.tt hm) hyok.s y.k ⟨hr0, hr3⟩
        obtain ⟨x0, x1, x2, x3, x4⟩ := box5 HQw.out
        generalize (R.n : Nat) = rn at *
        clear hyok
        go_upto_region 9 with (fail)
        have bd : Below wr.heap.size wr wr.drew := Below.drew (Below.refl _ _)
        obtain ⟨Wd, hWd⟩ : ∃ Wd, wr.drew = Wd := ⟨_, rfl⟩
        rw [hWd] at bd
        have HBd : Hid (Below wr.heap.size wr Wd) := bd
        have HQd : Hid (Wd.heap[q]? = some (.cells #[.slice none 0 0, .slice la lm lc, .int .i64 rn, .slice none 0 0, .bool false] 30 (0, 0))) := (bd.block _ (lt_blk HQw.out)).trans HQw.out
        have kc : ∀ (bb oo : Nat) (uu : Value), wr.cell? ⟨bb, oo, none⟩ = some uu → Wd.cell? ⟨bb, oo, none⟩ = some uu := fun bb oo uu h => (bd.cell (p := ⟨bb, oo, none⟩) (lt_cellD h)).trans h
        have hS : (fun w' : World => w'.cell? ⟨q, 0, none⟩ = some (.slice none 0 0) ∧ w'.cell? ⟨q, 1, none⟩ = some (.slice la lm lc) ∧ w'.cell? ⟨q, 2, none⟩ = some (.int .i64 rn) ∧ w'.cell? ⟨q, 3, none⟩ = some (.slice none 0 0) ∧ w'.cell? ⟨q, 4, none⟩ = some (.bool false) ∧ w'.cell? ⟨b, off + k * 8, none⟩ = some (.int .i64 y.k) ∧ w'.cell? ⟨b, off + k * 8 + 1, none⟩ = some (.string (str y.nm)) ∧ w'.cell? ⟨b, off + k * 8 + 2, none⟩ = some (.string (str y.tt)) ∧ w'.cell? ⟨b, off + k * 8 + 3, none⟩ = some (.string (str y.s)) ∧ w'.cell? ⟨b, off + k * 8 + 4, none⟩ = some (.int .i64 y.f0) ∧ w'.cell? ⟨b, off + k * 8 + 5, none⟩ = some (.int .i64 y.f1) ∧ w'.cell? ⟨b, off + k * 8 + 6, none⟩ = some (.int .i64 y.f2) ∧ w'.cell? ⟨b, off + k * 8 + 7, none⟩ = some (.slice y.pa y.pn y.pc)) Wd := ⟨kc _ _ _ x0, kc _ _ _ x1, kc _ _ _ x2, kc _ _ _ x3, kc _ _ _ x4, kc _ _ _ z0, kc _ _ _ z1, kc _ _ _ z2, kc _ _ _ z3, kc _ _ _ z4, kc _ _ _ z5, kc _ _ _ z6, kc _ _ _ z7⟩
        have HSd : Hid _ := hS
        have hOne := HOne.out Wd bd
        clear kc bd x0 x1 x2 x3 x4 z0 z1 z2 z3 z4 z5 z6 z7 HOne
        refine wp_calmD ?_
        refine wp_region_L [12] (fun w' : World => w'.cell? ⟨q, 0, none⟩ = some (.slice none 0 0) ∧ w'.cell? ⟨q, 1, none⟩ = some (.slice la lm lc) ∧ w'.cell? ⟨q, 2, none⟩ = some (.int .i64 rn) ∧ w'.cell? ⟨q, 3, none⟩ = some (.slice none 0 0) ∧ w'.cell? ⟨q, 4, none⟩ = some (.bool false) ∧ w'.cell? ⟨b, off + k * 8, none⟩ = some (.int .i64 y.k) ∧ w'.cell? ⟨b, off + k * 8 + 1, none⟩ = some (.string (str y.nm)) ∧ w'.cell? ⟨b, off + k * 8 + 2, none⟩ = some (.string (str y.tt)) ∧ w'.cell? ⟨b, off + k * 8 + 3, none⟩ = some (.string (str y.s)) ∧ w'.cell? ⟨b, off + k * 8 + 4, none⟩ = some (.int .i64 y.f0) ∧ w'.cell? ⟨b, off + k * 8 + 5, none⟩ = some (.int .i64 y.f1) ∧ w'.cell? ⟨b, off + k * 8 + 6, none⟩ = some (.int .i64 y.f2) ∧ w'.cell? ⟨b, off + k * 8 + 7, none⟩ = some (.slice y.pa y.pn y.pc)) (by kernel_rfl) ?_
        rw [hWd]
        clear hWd
        refine wpAnyL_take (i := 0) 47 (v := .pointer (some ⟨p, 0, none⟩)) rfl rfl (by kernel_rfl) (by kernel_rfl) (by kernel_rfl) (by kernel_rfl) (by kernel_rfl) (by kernel_rfl) (fun _ _ _ h => h) hS (by rfl) (by intro w' hSw; obtain ⟨y0, y1, y2, y3, y4, z0, z1, z2, z3, z4, z5, z6, z7⟩ := hSw; go_simp <;> with_reducible rfl) ?_
        simp only [Act.put, List.setIfInBounds_toArray, List.set_cons_zero, List.set_cons_succ]
        refine wpAnyL_take (i := 1) 48 (v := .agg #[.slice none 0 0, .slice la lm lc, .int .i64 rn, .slice none 0 0, .bool false]) rfl rfl (by kernel_rfl) (by kernel_rfl) (by kernel_rfl) (by kernel_rfl) (by kernel_rfl) (by kernel_rfl) (fun _ _ _ h => h) hS (by rfl) (by intro w' hSw; obtain ⟨y0, y1, y2, y3, y4, z0, z1, z2, z3, z4, z5, z6, z7⟩ := hSw; go_simp <;> with_reducible rfl) ?_
        simp only [Act.put, List.setIfInBounds_toArray, List.set_cons_zero, List.set_cons_succ]
        refine wpAnyL_take (i := 2) 49 (v := .slice (some ⟨b, off, none⟩) n0 cap) rfl rfl (by kernel_rfl) (by kernel_rfl) (by kernel_rfl) (by kernel_rfl) (by kernel_rfl) (by kernel_rfl) (fun _ _ _ h => h) hS (by rfl) (by intro w' hSw; obtain ⟨y0, y1, y2, y3, y4, z0, z1, z2, z3, z4, z5, z6, z7⟩ := hSw; go_simp <;> with_reducible rfl) ?_
        simp only [Act.put, List.setIfInBounds_toArray, List.set_cons_zero, List.set_cons_succ]
        refine wpAnyL_take (i := 3) 50 (v := .int .i64 (k : Int)) rfl rfl (by kernel_rfl) (by kernel_rfl) (by kernel_rfl) (by kernel_rfl) (by kernel_rfl) (by kernel_rfl) (fun _ _ _ h => h) hS (by rfl) (by intro w' hSw; obtain ⟨y0, y1, y2, y3, y4, z0, z1, z2, z3, z4, z5, z6, z7⟩ := hSw; go_simp <;> with_reducible rfl) ?_
        simp only [Act.put, List.setIfInBounds_toArray, List.set_cons_zero, List.set_cons_succ]
        refine wpAnyL_take (i := 4) 51 (v := .pointer (some ⟨b, off + k * 8, none⟩)) rfl rfl (by kernel_rfl) (by kernel_rfl) (by kernel_rfl) (by kernel_rfl) (by kernel_rfl) (by kernel_rfl) (fun _ _ _ h => h) hS (by rfl) (by intro w' hSw; obtain ⟨y0, y1, y2, y3, y4, z0, z1, z2, z3, z4, z5, z6, z7⟩ := hSw; go_simp <;> with_reducible rfl) ?_
        simp only [Act.put, List.setIfInBounds_toArray, List.set_cons_zero, List.set_cons_succ]
        refine wpAnyL_take (i := 5) 52 (v := .agg #[.int .i64 y.k, .string (str y.nm), .string (str y.tt), .string (str y.s), .int .i64 y.f0, .int .i64 y.f1, .int .i64 y.f2, .slice y.pa y.pn y.pc]) rfl rfl (by kernel_rfl) (by kernel_rfl) (by kernel_rfl) (by kernel_rfl) (by kernel_rfl) (by kernel_rfl) (fun _ _ _ h => h) hS (by rfl) (by intro w' hSw; obtain ⟨y0, y1, y2, y3, y4, z0, z1, z2, z3, z4, z5, z6, z7⟩ := hSw; go_simp <;> with_reducible rfl) ?_
        simp only [Act.put, List.setIfInBounds_toArray, List.set_cons_zero, List.set_cons_succ]
        refine wpAnyL_one (i := 6) (by kernel_rfl) rfl (fun Ka hKa => ?_)
        go_simp
        refine hOne.mono ?_
        rintro r w7 ⟨la2, lm2, lc2, A', R', rfl, hD7, hRs7, hC7, hF7, hP7⟩
        have q7 := blk_frD HQd.out hF7 (by decide) (by decide)
        obtain ⟨v0, v1, v2, v3, v4⟩ := box5 q7
        have kz : ∀ (oo : Nat) (uu : Value), Wd.cell? ⟨b, oo, none⟩ = some uu → w7.cell? ⟨b, oo, none⟩ = some uu := fun oo uu h => fr_cellD hF7 (fun hh => by have h1 := hh.1; have h2 := HWlt.out; have h3 := HPe.out; omega) h
        have hs := HSd.out
        have hS7 : (fun w' : World => w'.cell? ⟨q, 0, none⟩ = some (.slice none 0 0) ∧ w'.cell? ⟨q, 1, none⟩ = some (.slice la lm lc) ∧ w'.cell? ⟨q, 2, none⟩ = some (.int .i64 rn) ∧ w'.cell? ⟨q, 3, none⟩ = some (.slice none 0 0) ∧ w'.cell? ⟨q, 4, none⟩ = some (.bool false) ∧ w'.cell? ⟨b, off + k * 8, none⟩ = some (.int .i64 y.k) ∧ w'.cell? ⟨b, off + k * 8 + 1, none⟩ = some (.string (str y.nm)) ∧ w'.cell? ⟨b, off + k * 8 + 2, none⟩ = some (.string (str y.tt)) ∧ w'.cell? ⟨b, off + k * 8 + 3, none⟩ = some (.string (str y.s)) ∧ w'.cell? ⟨b, off + k * 8 + 4, none⟩ = some (.int .i64 y.f0) ∧ w'.cell? ⟨b, off + k * 8 + 5, none⟩ = some (.int .i64 y.f1) ∧ w'.cell? ⟨b, off + k * 8 + 6, none⟩ = some (.int .i64 y.f2) ∧ w'.cell? ⟨b, off + k * 8 + 7, none⟩ = some (.slice y.pa y.pn y.pc)) w7 := ⟨v0, v1, v2, v3, v4, kz _ _ hs.2.2.2.2.2.1, kz _ _ hs.2.2.2.2.2.2.1, kz _ _ hs.2.2.2.2.2.2.2.1, kz _ _ hs.2.2.2.2.2.2.2.2.1, kz _ _ hs.2.2.2.2.2.2.2.2.2.1, kz _ _ hs.2.2.2.2.2.2.2.2.2.2.1, kz _ _ hs.2.2.2.2.2.2.2.2.2.2.2.1, kz _ _ hs.2.2.2.2.2.2.2.2.2.2.2.2⟩
        have HFw7 : Hid (FrD p w w7) := FrD.trans (FrD.trans HF.out (FrD.new HBd.out)) hF7
        have HQ7 : Hid (w7.heap[q]? = some (.cells #[.slice none 0 0, .slice la lm lc, .int .i64 rn, .slice none 0 0, .bool false] 30 (0, 0))) := q7
        have HD7 : Hid (DkAt w7 p p A') := hD7
        have HR7 : Hid (R'.sure = []) := hRs7.trans HRs.out
        have HC7 : Hid (ChAt w7 (.slice la2 lm2 lc2) R'.loose) := hC7
        have HP7 : Hid (PI (k + 1) A' R') := hP7
        refine hKa.out _ _ (fun _ => hS7) ?_
        clear hKa Ka hs kz hD7 hRs7 hC7 hF7 hP7 hOne hS HSd q7
        try simp only [Act.put, List.setIfInBounds_toArray, List.set_cons_zero, List.set_cons_succ]
        refine wpAnyL_take (i := 7) 46 (v := .tuple #[.pointer (some ⟨p, 0, none⟩), .agg #[.slice none 0 0, .slice la2 lm2 lc2, .int .i64 R'.n, .slice none 0 0, .bool false], .bool true]) rfl rfl (by kernel_rfl) (by kernel_rfl) (by kernel_rfl) (by kernel_rfl) (by kernel_rfl) (by kernel_rfl) (fun _ _ _ h => h) hS7 (by rfl) (by intro w' hSw; obtain ⟨y0, y1, y2, y3, y4, z0, z1, z2, z3, z4, z5, z6, z7⟩ := hSw; go_simp <;> with_reducible rfl) ?_
        simp only [Act.put, List.setIfInBounds_toArray, List.set_cons_zero, List.set_cons_succ]
        refine wpAnyL_take (i := 8) 54 (v := .pointer (some ⟨p, 0, none⟩)) rfl rfl (by kernel_rfl) (by kernel_rfl) (by kernel_rfl) (by kernel_rfl) (by kernel_rfl) (by kernel_rfl) (fun _ _ _ h => h) hS7 (by rfl) (by intro w' hSw; obtain ⟨y0, y1, y2, y3, y4, z0, z1, z2, z3, z4, z5, z6, z7⟩ := hSw; go_simp <;> with_reducible rfl) ?_
        simp only [Act.put, List.setIfInBounds_toArray, List.set_cons_zero, List.set_cons_succ]
        refine wpAnyL_take (i := 9) 55 (v := .agg #[.slice none 0 0, .slice la2 lm2 lc2, .int .i64 R'.n, .slice none 0 0, .bool false]) rfl rfl (by kernel_rfl) (by kernel_rfl) (by kernel_rfl) (by kernel_rfl) (by kernel_rfl) (by kernel_rfl) (fun _ _ _ h => h) hS7 (by rfl) (by intro w' hSw; obtain ⟨y0, y1, y2, y3, y4, z0, z1, z2, z3, z4, z5, z6, z7⟩ := hSw; go_simp <;> with_reducible rfl) ?_
        simp only [Act.put, List.setIfInBounds_toArray, List.set_cons_zero, List.set_cons_succ]
        have g0 := fro5 HQ7.out 0
        have g1 := fro5 HQ7.out 1
        have g2 := fro5 HQ7.out 2
        have g3 := fro5 HQ7.out 3
        have g4 := fro5 HQ7.out 4
        refine wpAnyL_two (i := 10) (j := 11) (by kernel_rfl) rfl rfl (fun K' hK => ?_) (fun K' hK => ?_)
        · go_simp
          refine hK.out _ _ (fun _ => hS7) ?_
          clear hK K'
          try simp only [Act.put, List.setIfInBounds_toArray, List.set_cons_zero, List.set_cons_succ]
          refine wpAnyL_one (i := 11) (by kernel_rfl) rfl (fun K' hK => ?_)
          go_simp
          refine hK.out _ _ (fun _ => hS7) ?_
          clear hK K'
          try simp only [Act.put, List.setIfInBounds_toArray, List.set_cons_zero, List.set_cons_succ]
          refine wpAnyL_one (i := 12) (by kernel_rfl) rfl (fun K' hK => ?_)
          go_simp
          refine hK.out _ _ (fun h => absurd h (Bool.eq_false_iff.1 (by kernel_rfl))) ?_
          clear hK K'
          try simp only [Act.put, List.setIfInBounds_toArray, List.set_cons_zero, List.set_cons_succ]
          clear hS7 g0 g1 g2 g3 g4 v0 v1 v2 v3 v4
          refine wpAnyL_done (by kernel_rfl) ?_ _
          have hE := one_keepD (x0 := .slice none 0 0) (x1 := .slice la2 lm2 lc2) (x2 := .int .i64 (R'.n : Nat)) (x3 := .slice none 0 0) (x4 := .bool false) HD7.out HQ7.out (w := w) (by have h1 := HSz.out; have h2 := HPe.out; omega) HFw7.out HC7.out
          have hQ9 := set5 (.slice none 0 0) (.slice la2 lm2 lc2) (.int .i64 (R'.n : Nat)) (.slice none 0 0) (.bool false) HQ7.out
          generalize hV : World.setCell _ _ _ = V at hE hQ9 ⊢
          have HE : Hid _ := hE
          have HQ9 : Hid _ := hQ9
          have hk6 : k < 40 := HK2.out
          clear hE hQ9 hV
          go_wp2_with (fail)
          go_roundw
          case rel => exact ⟨k + 1, A', R', la2, lm2, lc2, HK2.out, by go_num, rfl, HE.out.1, HR7.out, HE.out.2.1, HQ9.out, HP7.out, HE.out.2.2⟩
          case measure => have := HK2.out; simp [intOf]; omega
        · go_simp
          refine hK.out _ _ (fun _ => hS7) ?_
          clear hK K'
          try simp only [Act.put, List.setIfInBounds_toArray, List.set_cons_zero, List.set_cons_succ]
          refine wpAnyL_two (i := 10) (j := 12) (by kernel_rfl) rfl rfl (fun K' hK => ?_) (fun K' hK => ?_)
          · go_simp
            refine hK.out _ _ (fun _ => hS7) ?_
            clear hK K'
            try simp only [Act.put, List.setIfInBounds_toArray, List.set_cons_zero, List.set_cons_succ]
            refine wpAnyL_one (i := 12) (by kernel_rfl) rfl (fun K' hK => ?_)
            go_simp
            refine hK.out _ _ (fun h => absurd h (Bool.eq_false_iff.1 (by kernel_rfl))) ?_
            clear hK K'
            try simp only [Act.put, List.setIfInBounds_toArray, List.set_cons_zero, List.set_cons_succ]
            clear hS7 g0 g1 g2 g3 g4 v0 v1 v2 v3 v4
            refine wpAnyL_done (by kernel_rfl) ?_ _
            have hE := one_keepD (x0 := .slice none 0 0) (x1 := .slice la2 lm2 lc2) (x2 := .int .i64 (R'.n : Nat)) (x3 := .slice none 0 0) (x4 := .bool false) HD7.out HQ7.out (w := w) (by have h1 := HSz.out; have h2 := HPe.out; omega) HFw7.out HC7.out
            have hQ9 := set5 (.slice none 0 0) (.slice la2 lm2 lc2) (.int .i64 (R'.n : Nat)) (.slice none 0 0) (.bool false) HQ7.out
            generalize hV : World.setCell _ _ _ = V at hE hQ9 ⊢
            have HE : Hid _ := hE
            have HQ9 : Hid _ := hQ9
            have hk6 : k < 40 := HK2.out
            clear hE hQ9 hV
            go_wp2_with (fail)
            go_roundw
            case rel => exact ⟨k + 1, A', R', la2, lm2, lc2, HK2.out, by go_num, rfl, HE.out.1, HR7.out, HE.out.2.1, HQ9.out, HP7.out, HE.out.2.2⟩
            case measure => have := HK2.out; simp [intOf]; omega
          · go_simp
            refine hK.out _ _ (fun h => absurd h (Bool.eq_false_iff.1 (by kernel_rfl))) ?_
            clear hK K'
            try simp only [Act.put, List.setIfInBounds_toArray, List.set_cons_zero, List.set_cons_succ]
            refine wpAnyL_one (i := 10) (by kernel_rfl) rfl (fun K' hK => ?_)
            go_simp
            refine hK.out _ _ (fun h => absurd h (Bool.eq_false_iff.1 (by kernel_rfl))) ?_
            clear hK K'
            try simp only [Act.put, List.setIfInBounds_toArray, List.set_cons_zero, List.set_cons_succ]
            clear hS7 g0 g1 g2 g3 g4 v0 v1 v2 v3 v4
            refine wpAnyL_done (by kernel_rfl) ?_ _
            have hE := one_keepD (x0 := .slice none 0 0) (x1 := .slice la2 lm2 lc2) (x2 := .int .i64 (R'.n : Nat)) (x3 := .slice none 0 0) (x4 := .bool false) HD7.out HQ7.out (w := w) (by have h1 := HSz.out; have h2 := HPe.out; omega) HFw7.out HC7.out
            have hQ9 := set5 (.slice none 0 0) (.slice la2 lm2 lc2) (.int .i64 (R'.n : Nat)) (.slice none 0 0) (.bool false) HQ7.out
            generalize hV : World.setCell _ _ _ = V at hE hQ9 ⊢
            have HE : Hid _ := hE
            have HQ9 : Hid _ := hQ9
            have hk6 : k < 40 := HK2.out
            clear hE hQ9 hV
            go_wp2_with (fail)
            go_roundw
            case rel => exact ⟨k + 1, A', R', la2, lm2, lc2, HK2.out, by go_num, rfl, HE.out.1, HR7.out, HE.out.2.1, HQ9.out, HP7.out, HE.out.2.2⟩
            case measure => have := HK2.out; simp [intOf]; omega
      · have hr2 : 3 < y.k ∨ y.k < 0 := by omega
        clear hr
        rcases hr2 with hr2 | hr2
        all_goals
          go_wp2_with (fail)
          go_roundw
          case rel => exact ⟨k + 1, A, R, la, lm, lc, HK2.out, by go_num, rfl, HDk.out, HRs.out, HC.out, HQw.out, HP.out.next, HF.out⟩
          case measure => have := HK2.out; simp [intOf]; omega
    · have hnk : ¬ k < n0 ∨ ¬ k < 40 := by omega
      clear hlt
      have hP := HP.out
      have hbA := hP.bA hk40
      have hbR := hP.bR hk40
      have hsum : sz A.loose ≤ 5629499534213120 := by have := hP.az; omega
      have hN40 : A.now.length ≤ 40 := by
        have h1 := len_doneF A.loose A.sure
        have h2 := hP.al
        rw [hP.asu] at h1
        have e : A.now = doneF A.sure A.loose := rfl
        rw [e, hP.asu]
        simp at h1
        omega
      have hb1 : BdA A.sync (0 + sz A.loose) := hbA.sync
      have hb2 : BdA (A.sync.add cO) (0 + sz A.loose) := ⟨hb1.fit, by show 0 + sz A.loose + sz ([] ++ [cO]) ≤ _; rw [sz_snoc]; show 0 + sz A.loose + (sz [] + 1) ≤ _; simp [sz] at *; omega, by show A.now.length + 1 ≤ _; omega, by show A.n + 1 ≤ _; have := hP.an; omega⟩
      have hSort : SortF A.now := by
        have e : A.now = doneF A.sure A.loose := rfl
        rw [e, hP.asu]
        exact sort_doneF _ List.Pairwise.nil
      have HSy : Hid (∀ V, DkAt V p p A → Calls Try.prog 10 #[.pointer (some ⟨p, 0, none⟩)] V fun r w' => r = .returned (.int .i64 0) ∧ DkAt w' p p A.sync ∧ FrD p V w') := fun V ⟨_, _, _, h⟩ => sync_any h hP.ad hbA.len
      have HAp : Hid (∀ V, p ≤ V.heap.size → DkAt V p p A.sync → Calls Try.prog 11 #[.pointer (some ⟨p, 0, none⟩), .string (str oth), .string (str [120])] V fun r w' => r = .returned (.int .i64 0) ∧ DkAt w' p p (A.sync.add cO) ∧ FrD p V w') := fun V hV ⟨_, _, _, h⟩ => append_ok h hV hP.ad (by decide) (hb1.toBd _ (by decide) (by show 0 ≤ 1000000; omega))
      have HCr : Hid (∀ V, p ≤ V.heap.size → DkAt V p p (A.sync.add cO) → Calls Try.prog 13 #[.pointer (some ⟨p, 0, none⟩), .int .i64 keep, .int .i64 tn] V fun r w' => r = .returned (.tuple #[]) ∧ DkAt w' p p ((A.sync.add cO).fail keep tn) ∧ FrD p V w') := fun V hV ⟨_, _, _, h⟩ => crash_any h hV hb2 hP.ad keep tn
      have HUp : Hid (∀ V, DkAt V p p ((A.sync.add cO).fail keep tn) → Calls Try.prog 14 #[.pointer (some ⟨p, 0, none⟩)] V fun r w' => r = .returned (.bool true) ∧ DkAt w' p p { (A.sync.add cO).fail keep tn with dead := false } ∧ FrD p V w') := fun V ⟨_, _, _, h⟩ => up_dead h rfl
      have HRd : Hid (∀ V x, x ∈ A.now → DkAt V p p { (A.sync.add cO).fail keep tn with dead := false } → Calls Try.prog 16 #[.pointer (some ⟨p, 0, none⟩), .string (str x.1)] V fun r w' => r = .returned (.tuple #[.string (str (ofF x.1 (failF A.now [cO] keep tn))), .int .i64 0]) ∧ Below V.heap.size V w') := fun V x hx ⟨_, _, _, h⟩ => read_ok h rfl (hP.nok x hx) (by
        show (0 : Int) = if (getF x.1 (failF A.now [cO] keep tn)).isSome then 0 else 2
        rw [(fail_get hSort keep tn hx).1]
        rfl)
      have HNm : Hid (∀ V, DkAt V p p { (A.sync.add cO).fail keep tn with dead := false } → Calls Try.prog 17 #[.pointer (some ⟨p, 0, none⟩)] V fun r w' => ∃ a c, r = .returned (.slice a (failF A.now [cO] keep tn).length c) ∧ Below V.heap.size V w') := fun V ⟨_, _, _, h⟩ => by
        refine (names_any h rfl (by show (failF A.now [cO] keep tn).length ≤ 1000000; have := (fail_len A.now keep tn).2; omega)).mono ?_
        rintro r w' ⟨v, rfl, hrow, hb⟩
        rcases hrow.2 with ⟨h1, h2⟩ | ⟨g, cap', cur, rfl, _⟩
        · exact ⟨none, 0, by rw [h1]; show _ = Ending.returned (.slice none (failF A.now [cO] keep tn).length 0); rw [show (failF A.now [cO] keep tn).length = 0 from h2], hb⟩
        · exact ⟨_, _, rfl, hb⟩
      have HRsy : Hid (∀ V, ChAt V (.slice la lm lc) R.loose → Calls Try.prog 12 #[.agg #[.slice none 0 0, .slice la lm lc, .int .i64 (R.n : Nat), .slice none 0 0, .bool false]] V fun r w' => ∃ v', r = .returned (.agg #[v', .slice none 0 0, .int .i64 (R.n : Nat), .slice none 0 0, .bool false]) ∧ FlAt w' v' A.now ∧ Below V.heap.size V w') := fun V hC => by
        rw [← hP.now]
        exact rsync_any (by rw [HRs.out]; exact ⟨rfl, .inl ⟨rfl, rfl⟩⟩) hC hP.ok hbR ⟨_, _, _, rfl⟩ ⟨_, _, _, rfl⟩
      have hbN : BdA ⟨A.now, [], A.n, false⟩ (0 + sz A.loose) := ⟨hb1.fit, hb1.sum, hb1.len, hb1.n⟩
      have HNo : Hid (∀ V v, FlAt V v A.now → Calls Try.prog 15 #[.agg #[v, .slice none 0 0, .int .i64 (R.n : Nat), .slice none 0 0, .bool false]] V fun r w' => ∃ v', r = .returned v' ∧ FlAt w' v' A.now ∧ Below V.heap.size V w') := fun V v hF => now_any (A := ⟨A.now, [], A.n, false⟩) hF ⟨rfl, .inl ⟨rfl, rfl⟩⟩ (fun c hc => (by cases hc)) hbN
      have HLen : Hid (A.now.length ≤ (failF A.now [cO] keep tn).length ∧ (failF A.now [cO] keep tn).length ≤ A.now.length + 1 ∧ A.now.length ≤ 40) := ⟨(fail_len A.now keep tn).1, (fail_len A.now keep tn).2, hN40⟩
      have HGet : Hid (∀ x ∈ A.now, ¬ x.1 = oth → ofF x.1 (failF A.now [cO] keep tn) = x.2) := fun x hx => (fail_get hSort keep tn hx).2
      have HpW : Hid (p ≤ wr.heap.size) := by have h1 := HBw.out.size; have h2 := HPe.out; show p ≤ _; omega
      obtain ⟨x0, x1, x2, x3, x4⟩ := box5 HQw.out
      clear hP hbA hbR hsum hN40 hb1 hb2 hSort hbN
      generalize (R.n : Nat) = rn at *
      by_cases hk1 : k < n0
      case' pos =>
        obtain rfl : k = 40 := by omega
        clear hnk hk40
      case' neg =>
        clear hnk
      all_goals
        have hSy := HSy.out wr HDk.out
        go_upto_region 12 with (first
          | (go_at_call 10; refine hSy.mono ?_; rintro r v1 ⟨rfl, hd1, hf1⟩; have HF1 : Hid (FrD p wr v1) := hf1; have hAp := HAp.out v1 (Nat.le_trans HpW.out hf1.size) hd1; clear hd1 hf1)
          | (go_at_call 11; refine hAp.mono ?_; rintro r v2 ⟨rfl, hd2, hf2⟩; have HD2 : Hid _ := hd2; have HF2 : Hid (FrD p v1 v2) := hf2; clear hd2 hf2))
        have f12 := FrD.trans HF1.out HF2.out
        have HQ2 : Hid (v2.heap[q]? = some (.cells #[.slice none 0 0, .slice la lm lc, .int .i64 rn, .slice none 0 0, .bool false] 30 (0, 0))) := blk_frD HQw.out f12 (by decide) (by decide)
        have hRsy := HRsy.out v2 (row_frD HC.out f12 (by decide) (by decide))
        have HF02 : Hid (FrD p w v2) := FrD.trans HF.out f12
        clear x0 x1 x2 x3 x4 f12 hSy hAp HF1 HF2
        obtain ⟨x0, x1, x2, x3, x4⟩ := box5 HQ2.out
        go_upto_region 13 with (go_at_call 12; refine hRsy.mono ?_; rintro r v3 ⟨vv, rfl, hfl, hb3⟩; have q3 := (hb3.block _ (lt_blk HQ2.out)).trans HQ2.out; obtain ⟨x0, x1, x2, x3, x4⟩ := box5 q3; have g0 := fro5 q3 0; have g1 := fro5 q3 1; have g2 := fro5 q3 2; have g3 := fro5 q3 3; have g4 := fro5 q3 4; obtain ⟨va, vc, rfl, _, _⟩ := fl_shape hfl; have HFl : Hid _ := hfl; have HB3 : Hid (Below v2.heap.size v2 v3) := hb3; have HQ3 : Hid _ := q3; clear hfl hb3 q3)
        obtain ⟨nN, hnN⟩ : ∃ nN, A.now.length = nN := ⟨_, rfl⟩
        have HnN : Hid (A.now.length = nN) := hnN
        have hfl3 : FlAt v3 (.slice va nN vc) A.now := by
          have h : v3.ownsRow 0 49 2 (.slice va A.now.length vc) A.now.length (A.now.flatMap flCells) := HFl.out
          unfold FlAt
          rw [hnN] at h ⊢
          exact h
        rw [hnN]
        have hE := one_keepN (x0 := .slice va nN vc) (x1 := .slice none 0 0) (x2 := .int .i64 rn) (x3 := .slice none 0 0) (x4 := .bool false) (DkAt.new HD2.out HB3.out) HQ3.out (w := w) (by have h1 := HSz.out; have h2 := HPe.out; omega) (FrD.trans HF02.out (FrD.new HB3.out))
        have hQ4 := set5 (.slice va nN vc) (.slice none 0 0) (.int .i64 rn) (.slice none 0 0) (.bool false) HQ3.out
        have hfl4 : FlAt _ (.slice va nN vc) A.now := row_keep hfl3 (set5_fr v3 q (.slice va nN vc) (.slice none 0 0) (.int .i64 rn) (.slice none 0 0) (.bool false)) (fun k' hk' e => by
          subst e
          obtain ⟨_, cc, ff, hh⟩ := row_tag hfl3 hk'
          rw [HQ3.out] at hh
          cases hh)
        generalize hV : World.setCell _ _ _ = v4 at hE hQ4 hfl4 ⊢
        have HFw4 : Hid (FrD p w v4) := hE.2
        have HQ4 : Hid _ := hQ4
        have HFl4 : Hid (FlAt v4 (.slice va nN vc) A.now) := hfl4
        have hp4 : p ≤ v4.heap.size := by have h1 := hE.2.size; have h2 := HPe.out; omega
        have hCr := HCr.out v4 hp4 hE.1
        clear hV hE hQ4 hfl4 hfl3 hnN x0 x1 x2 x3 x4 g0 g1 g2 g3 g4 hRsy HFl HB3 HQ3 HQ2 HD2
        go_upto_region 15 with (first
          | (go_at_call 13; refine hCr.mono ?_; rintro r v5 ⟨rfl, hd5, hf5⟩; have HF5 : Hid (FrD p v4 v5) := hf5; have hUp := HUp.out v5 hd5; clear hd5 hf5)
          | (go_at_call 14; refine hUp.mono ?_; rintro r v6 ⟨rfl, hd6, hf6⟩; have HD6 : Hid _ := hd6; have HF6 : Hid (FrD p v5 v6) := hf6; clear hd6 hf6))
        have f46 := FrD.trans HF5.out HF6.out
        have q6 := blk_frD HQ4.out f46 (by decide) (by decide)
        have HFw6 : Hid (FrD p w v6) := FrD.trans HFw4.out f46
        have HFl6 : Hid (FlAt v6 (.slice va nN vc) A.now) := row_frD HFl4.out f46 (by decide) (by decide)
        have hNo := HNo.out v6 _ HFl6.out
        obtain ⟨x0, x1, x2, x3, x4⟩ := box5 q6
        clear f46 q6 hCr hUp HF5 HF6 hp4
        go_upto_region 16 with (go_at_call 15; refine hNo.mono ?_; rintro r v7 ⟨vw, rfl, hfl7, hb7⟩; obtain ⟨wa, wc, rfl, hwc, hwg⟩ := fl_shape hfl7; have HFl7 : Hid _ := hfl7; have HB7 : Hid (Below v6.heap.size v6 v7) := hb7; have HWg : Hid _ := hwg; clear hfl7 hb7 hwg)
        have HD7 : Hid (DkAt v7 p p { (A.sync.add cO).fail keep tn with dead := false }) := DkAt.new HD6.out HB7.out
        have HFw7 : Hid (FrD p w v7) := FrD.trans HFw6.out (FrD.new HB7.out)
        have HWC : Hid (∀ g, wa = some ⟨g, 0, none⟩ → ∀ j (hj : j < A.now.length), v7.cell? ⟨g, j * 2, none⟩ = some (.string (str A.now[j].1)) ∧ v7.cell? ⟨g, j * 2 + 1, none⟩ = some (.string (str A.now[j].2))) := fun g e j hj => by
          have h := HFl7.out
          subst e
          exact fl_cells h rfl j hj
        have hn40 : nN ≤ 40 := by have := HLen.out.2.2; rw [HnN.out] at this; exact this
        rw [HnN.out] at hwc ⊢
        clear x0 x1 x2 x3 x4 hNo
        go_wp2
        go_loopw [11] (fun i wr2 => ∃ j : Nat, j ≤ nN ∧ i = .int .i64 j ∧ Below v7.heap.size v7 wr2) (fun i _ => nN - (intOf i).toNat)
        case atStart => exact ⟨0, Nat.zero_le _, rfl, Below.refl _ _⟩
        case round =>
          obtain ⟨j, hj, rfl, hb⟩ := hrel
          have HB : Hid (Below v7.heap.size v7 wr) := hb
          by_cases hlt : j < nN
          · have HLt : Hid (j < nN) := hlt
            have hjl : j < A.now.length := by rw [HnN.out]; exact hlt
            obtain ⟨g, rfl⟩ := HWg.out (by omega)
            obtain ⟨c0, c1⟩ := HWC.out g rfl j hjl
            replace c0 := (hb.cell (p := ⟨g, j * 2, none⟩) (lt_cellD c0)).trans c0
            replace c1 := (hb.cell (p := ⟨g, j * 2 + 1, none⟩) (lt_cellD c1)).trans c1
            have hR := HRd.out wr A.now[j] (List.getElem_mem hjl) (DkAt.new HD7.out hb)
            have hG := HGet.out A.now[j] (List.getElem_mem hjl)
            generalize A.now[j] = y at c0 c1 hR hG
            obtain ⟨yn, ys⟩ := y
            simp only at c0 c1 hR hG
            generalize ofF yn (failF A.now [cO] keep tn) = oo at hR hG
            clear hjl hb
            have hj6 : j < 40 := by omega
            by_cases ho : yn = oth
            · have heq : ((str yn).toList == [111, 116, 104, 101, 114, 45, 102, 105, 108, 101]) = true := by rw [str_toList, ho]; rfl
              clear ho hG
              go_wp2_with (go_at_call 16; refine hR.mono ?_; rintro r w9 ⟨rfl, hb9⟩; have c0 := (hb9.cell (p := ⟨g, j * 2, none⟩) (lt_cellD c0)).trans c0; have c1 := (hb9.cell (p := ⟨g, j * 2 + 1, none⟩) (lt_cellD c1)).trans c1; have HB9 : Hid (Below wr.heap.size wr w9) := hb9; clear hb9)
              go_roundw
              case rel => exact ⟨j + 1, HLt.out, by go_num, HB.out.trans (HB9.out.mono HB.out.size)⟩
              case measure => have := HLt.out; simp [intOf]; omega
            · have heq : ((str yn).toList == [111, 116, 104, 101, 114, 45, 102, 105, 108, 101]) = false := by
                rw [str_toList]
                exact beq_eq_false_iff_ne.2 ho
              have hoo := hG ho
              subst hoo
              clear ho hG
              go_wp2_with (go_at_call 16; refine hR.mono ?_; rintro r w9 ⟨rfl, hb9⟩; have c0 := (hb9.cell (p := ⟨g, j * 2, none⟩) (lt_cellD c0)).trans c0; have c1 := (hb9.cell (p := ⟨g, j * 2 + 1, none⟩) (lt_cellD c1)).trans c1; have HB9 : Hid (Below wr.heap.size wr w9) := hb9; clear hb9)
              go_roundw
              case rel => exact ⟨j + 1, HLt.out, by go_num, HB.out.trans (HB9.out.mono HB.out.size)⟩
              case measure => have := HLt.out; simp [intOf]; omega
          · obtain rfl : j = nN := by omega
            have hN1 := HNm.out wr (DkAt.new HD7.out hb)
            have HN2 : Hid (∀ V, Below wr.heap.size wr V → Calls Try.prog 17 #[.pointer (some ⟨p, 0, none⟩)] V fun r w' => ∃ a c, r = .returned (.slice a (failF A.now [cO] keep tn).length c) ∧ Below V.heap.size V w') := fun V hV => HNm.out V (DkAt.new (DkAt.new HD7.out HB.out) hV)
            have hl1 := HLen.out.1
            have hl2 := HLen.out.2.1
            rw [HnN.out] at hl1 hl2
            generalize (failF A.now [cO] keep tn).length = fl at hN1 HN2 hl1 hl2
            have tk : True := trivial
            clear hlt hb
            go_wp2_with (first
              | (go_at_call 17; have _t := tk; refine hN1.mono ?_; rintro r w9 ⟨na, nc, rfl, hb9⟩; have HB9 : Hid (Below wr.heap.size wr w9) := hb9; have hN2 := HN2.out w9 hb9; clear hb9 tk)
              | (go_at_call 17; refine hN2.mono ?_; rintro r w10 ⟨na2, nc2, rfl, hb10⟩; have HB10 : Hid (Below w9.heap.size w9 w10) := hb10; clear hb10))
            go_ret
            have b7 := FrD.below HFw7.out (by rw [HPe.out]; exact Nat.le_refl _)
            rw [← HPe.out] at b7
            have b8 := b7.trans (HB.out.mono b7.size)
            have b9 := b8.trans (HB9.out.mono b8.size)
            refine ⟨?_, b9.trans (HB10.out.mono b9.size)⟩
            refine congrArg Ending.returned (congrArg Value.bool ?_)
            simp
            omega
end
end Go.Proofs.Ythpojidkmmflhaa
