import Derived.Test.YtjemnkijoiehmaaDoorStPgM
import Derived.Test.YtjemnkijoiehmaaDoorStKM
import Derived.Shelf.SlIter.Nil
import Derived.Shelf.SlIter.Sorted
import Derived.Shelf.SortM.Plain
import Derived.Shelf.SortM.SortNone
import Derived.Shelf.SlGeneric
import Derived.Test.YtjemnkijoiehmaaDoorProg
import Derived.Test.YtjemnkijoiehmaaDoorDkAwM
import Derived.Shelf.AbstractIn
import Derived.Test.YtjemnkijoiehmaaDoorStMapM
import Derived.Test.YtjemnkijoiehmaaDoorDkFilesM
section
/- store: Drop. -/
namespace Go.Proofs.YtjemnkijoiehmaaDoor
open Go.RowKit Go.Maps
variable {Xm : Nat → Prop}
attribute [local go_sem] Oper.semAt_some
section
variable {w W1 W2 W3 : World} {B q p c b : Nat} {K : St} {A : Dk} {mb : Option Nat} {mv v' : Value} {n : Int}
theorem drop_tail (h : SA0 Xm w B q p K A c (some b) mv) (hB : B ≤ w.heap.size) (h0 : 0 ≤ n) (h1 : n < 16)
    (hb1 : Below w.heap.size w W1) (h2 : IMp lvH W2 b (cutO' (heldO K.f K.near) n)) (f2 : Fr W1 W2 (fun k => k = b)) (f3 : Below W2.heap.size W2 W3) (hv : NrO W3 W2.heap.size v' (woI K.near n)) :
    SA0 Xm (W3.setCell ⟨q, 3, none⟩ v') B q p (K.drop n) A c (some b) v' ∧ FrT Xm B w (W3.setCell ⟨q, 3, none⟩ v') := by
  have h1' := h.new hb1
  have hm1 : IMp lvH W1 b (heldO K.f K.near) := h1'.tx
  have hqb : q ≠ b := fun e => by
    obtain ⟨es, c', hm⟩ := hm1.isMap
    rw [← e, h1'.blk] at hm
    cases hm
  have bl2 : StBl W2 q p K.bud K.sp (some b) mv := (f2.block q (lt_blk h1'.blk) hqb).trans h1'.blk
  have bl3 := bl2.new f3
  have dk2 := h1'.dk.kept f2 (fun k e => .inr (by rw [e]))
  have dk3 := dk2.new f3
  have m3 := h2.new f3
  generalize hS1 : W3.setCell ⟨q, 3, none⟩ v' = w6
  have f6 : Fr W3 w6 (fun k => k = q) := by rw [← hS1]; exact Fr.setCell (S := fun k => k = q) W3 ⟨q, 3, none⟩ _ rfl
  have bl6 : StBl w6 q p K.bud K.sp (some b) v' := by rw [← hS1]; exact blk_set (i := 3) v' bl3
  have hqv : ¬ v'.ownBlock = some q := fun e => by
    obtain ⟨_, c', f, hm⟩ := hv.tag e
    rw [bl3] at hm
    cases hm
  have hs : w.heap.size ≤ W2.heap.size := Nat.le_trans hb1.size f2.size
  have dk6 := st_dkkeep dk3 f6 (fun k hk => by rw [hk]; exact ⟨_, _, _, bl3, by decide, by decide⟩)
  have m6 := m3.kept f6 (fun e => hqb e.symm)
  have r6 := hv.kept f6 (fun k hk e => hqv (by rw [← e]; exact hk))
  refine ⟨⟨bl6, ?_, r6.low (Nat.le_trans hB hs), dk6, h.di, h.ok.drop, (drop_files h.ok h.dk.sort h0 h1 h.fl).1, h.hq, h.hm, h.nq, h.nm, fun k e hx => ?_⟩, ?_⟩
  · show IMp lvH w6 b _
    rw [← drop_held]
    exact m6
  · have := h.lx k hx
    have := (hv.tag e).1
    omega
  · have g1 : FrT Xm B w W2 := (FrT.new hb1).trans (Fr.mono f2 (fun k _ e => by rw [e]; exact ⟨h.hm b rfl, .inl hm1.isMap, h.nm b rfl⟩))
    refine (g1.trans (FrT.new f3)).trans (Fr.mono f6 (fun k _ e => ?_))
    rw [e]
    exact ⟨h.hq, .inr ⟨_, _, _, bl3, .inr (.inr rfl)⟩, h.nq⟩
/-- The file goes, too, if there is one. -/
theorem sremove (h : SA0 Xm w B q p (K.drop n) A c mb mv) (hB : B ≤ w.heap.size) (hc : c ≤ 900000) (h0 : 0 ≤ n) (h1 : n < 16) (hk : K.ok) (hf : Files K A) : Calls Tryd.prog 15 #[.pointer (some ⟨p, 0, none⟩), .string (str (fnm n))] w fun r w' => ∃ er : Int, r = .returned (.int .i64 er) ∧ SA Xm w' B q p (K.drop n) (c + 1) ∧ FrT Xm B w w' := by
  have hs := h.dk.sort
  obtain ⟨mn, ms, lv, hA⟩ := h.dk
  cases hg : (getF (fnm n) A.now).isSome with
  | true =>
    refine Calls.mono (remove_ok hA hB (quiet_nil h.di.pv) h.di.dead (fnm_ok h0 h1) hg (h.di.bd (by omega) 3 (Nat.zero_le _))) ?_
    rintro r w' ⟨rfl, h2, h3⟩
    exact ⟨0, rfl, ⟨_, mb, mv, h.blk.frD h3, h.tx.kept h3 (fun k e s => s.2.2 (.inr e)), NrO.frD h.mem h3, h2, h.di.remove, h.ok, (drop_files hk hs h0 h1 hf).2, h.hq, h.hm, h.nq, h.nm, h.nv⟩, h3.toT (fun _ => .inl)⟩
  | false =>
    have hR := read_ok (nm := fnm n) (er := 2) hA h.di.dead (fnm_ok h0 h1) (by rw [hg]; rfl)
    refine Calls.mono (remove_err _ (by decide) hR) ?_
    rintro r w' ⟨rfl, h2⟩
    exact ⟨2, rfl, SA.mono ⟨A, mb, mv, h.new h2⟩ (Nat.le_succ _), FrT.new h2⟩
set_option linter.unusedSimpArgs false in
set_option maxRecDepth 100000 in
set_option maxHeartbeats 2000000 in
theorem sdrop_some {s : Bs} (h : SA Xm w B q p K c) (hB : B ≤ w.heap.size) (hc : c ≤ 900000) (hf : K.f n = some s) : Calls Tryd.prog 8 #[.pointer (some ⟨q, 0, none⟩), .int .i64 n] w fun r w' => r = .returned (.bool true) ∧ SA Xm w' B q p (K.drop n) (c + 1) ∧ FrT Xm B w w' := by
  obtain ⟨A, mb, mv, h⟩ := h
  have hr := h.ok.sup n (by rw [hf]; rfl)
  have h0 := hr.1
  have h1 := hr.2
  obtain ⟨b, rfl⟩ : ∃ b, mb = some b := by
    cases mb with
    | none =>
      have e : heldO K.f K.near = noneO := h.tx
      have e2 := heldO_some (f := K.f) (near := K.near) n
      rw [e, hf] at e2
      cases e2
    | some b => exact ⟨b, rfl⟩
  have HH : Hid (SA0 Xm w B q p K A c (some b) mv) := h
  have hlk := h.tx.lookOk mtH (i6_few h0 h1)
  rw [heldO_some, hf] at hlk
  obtain ⟨⟨t, a, u⟩, hhd⟩ : ∃ y : Hd, ((heldO K.f K.near n).map lvH).getD zvH = lvH y := by
    cases heldO K.f K.near n with
    | none => exact ⟨⟨[], false, 0⟩, rfl⟩
    | some y => exact ⟨y, rfl⟩
  rw [hhd] at hlk
  simp only [lvH, Option.isSome_some] at hlk
  have c2 := h.blk.cells.2.2.1
  have HB : Hid (B ≤ w.heap.size) := hB
  have HC : Hid (c ≤ 900000) := hc
  clear h hB hc hf hr hhd
  go_enter Tryd.func8, Tryd.ntmps8
  go_upto_region 4 with (refine wpList_store_row rfl 51 _ _ rfl _ #[.string (str t), .bool a, .int .u32 u] rfl rfl 51 #[.string (str []), .bool false, .int .u32 0] (heap_alloc_new _ _) size_held rfl (by simp [Value.oneCell']) ?_)
  generalize hW : World.setRow _ _ _ = W1
  have HB1 : Hid (Below w.heap.size w W1) := by
    show Below _ _ _
    rw [← hW]
    exact ((Fr.alloc w _ (fun _ => False)).trans (st_setRow _ _ _) (fun i hi e => absurd e (by omega))).below (Nat.le_refl _) (fun _ h => h.elim)
  clear hW c2 hlk
  generalize w.heap.size = hb
  have HH1 : Hid (SA0 Xm W1 B q p K A c (some b) mv) := HH.out.new HB1.out
  have c2 := HH1.out.blk.cells.2.2.1
  have htx : IMp lvH W1 b (heldO K.f K.near) := HH1.out.tx
  obtain ⟨W2, hrun, hm2, hf2⟩ := htx.del mtH (i6_few h0 h1) 0
  have HM2 : Hid (IMp lvH W2 b (cutO' (heldO K.f K.near) n)) := hm2
  have HF2 : Hid (Fr W1 W2 (fun k => k = b)) := hf2
  have hbl2 : StBl W2 q p K.bud K.sp (some b) mv := (hf2.block q (lt_blk HH1.out.blk) (fun e => by
    obtain ⟨es, c', hm⟩ := htx.isMap
    rw [← e, HH1.out.blk] at hm
    cases hm)).trans HH1.out.blk
  have HBl2 : Hid (StBl W2 q p K.bud K.sp (some b) mv) := hbl2
  have hv2 : NrO W2 B mv K.near := HH1.out.mem.kept hf2 (fun k e e2 => by
    obtain ⟨es, c', hm⟩ := htx.isMap
    obtain ⟨_, c'', f'', hm'⟩ := HH1.out.mem.tag e
    rw [e2, hm] at hm'
    cases hm')
  have hWo := swithout (n := n) hv2.toS (by have := HH.out.ok.few; omega)
  clear htx hm2 hf2 hbl2 hv2
  go_upto_region 7 with (fail)
  obtain ⟨d0, d1, d2, d3, d4⟩ := HBl2.out.cells
  clear hrun c2
  go_upto_region 8 with (go_at_call 14; refine Calls.mono hWo ?_; rintro r W3 ⟨v3, rfl, e1, e2⟩; obtain ⟨a3, l3, k3, rfl⟩ : ∃ a l c, v3 = .slice a l c := (by obtain ⟨a, c, e⟩ := e1.shape; exact ⟨a, _, c, e⟩); have HV3 : Hid (NrO W3 W2.heap.size (.slice a3 l3 k3) (woI K.near n)) := e1; have HF3 : Hid (Below W2.heap.size W2 W3) := e2; have b3 := HBl2.out.new e2; have x3 := b3.cells.2.2.2.1; have g3 := b3.free 3; clear e1 e2 b3 hWo d0 d1 d2 d3 d4)
  clear x3 g3
  have hT := drop_tail HH.out HB.out h0 h1 HB1.out HM2.out HF2.out HF3.out HV3.out
  generalize W3.setCell ⟨q, 3, none⟩ (.slice a3 l3 k3) = W4 at hT ⊢
  have HT : Hid (SA0 Xm W4 B q p (K.drop n) A c (some b) (.slice a3 l3 k3)) := hT.1
  have HF : Hid (FrT Xm B w W4) := hT.2
  clear hT
  obtain ⟨Wd, hWd⟩ : ∃ Wd, W4.drew = Wd := ⟨_, rfl⟩
  have bd : Below W4.heap.size W4 Wd := by rw [← hWd]; exact Below.drew (Below.refl _ _)
  have HTd : Hid (SA0 Xm Wd B q p (K.drop n) A c (some b) (.slice a3 l3 k3)) := HT.out.new bd
  have HFd : Hid (FrT Xm B w Wd) := HF.out.trans (FrT.new bd)
  have hRm := sremove HTd.out (Nat.le_trans HB.out HFd.out.size) HC.out h0 h1 HH.out.ok HH.out.fl
  have hS : Wd.cell? ⟨q, 0, none⟩ = some (.pointer (some ⟨p, 0, none⟩)) := HTd.out.blk.cells.1
  have hN := fun W => sname h0 h1 W
  clear bd
  refine wp_calmD ?_
  refine wp_region_L [6] (fun W : World => W.cell? ⟨q, 0, none⟩ = some (.pointer (some ⟨p, 0, none⟩))) (by kernel_rfl) ?_
  rw [hWd]
  clear hWd
  refine wpAnyL_take (i := 0) 34 (v := .pointer (some ⟨q, 0, none⟩)) rfl rfl (by kernel_rfl) (by kernel_rfl) (by kernel_rfl) (by kernel_rfl) (by kernel_rfl) (by kernel_rfl) (fun _ _ _ h => h) hS (by rfl) (by intro w' hSw; have y0 := hSw; go_simp <;> with_reducible rfl) ?_
  simp only [Act.put, List.setIfInBounds_toArray, List.set_cons_zero, List.set_cons_succ]
  refine wpAnyL_take (i := 1) 35 (v := .pointer (some ⟨q, 0, none⟩)) rfl rfl (by kernel_rfl) (by kernel_rfl) (by kernel_rfl) (by kernel_rfl) (by kernel_rfl) (by kernel_rfl) (fun _ _ _ h => h) hS (by rfl) (by intro w' hSw; have y0 := hSw; go_simp <;> with_reducible rfl) ?_
  simp only [Act.put, List.setIfInBounds_toArray, List.set_cons_zero, List.set_cons_succ]
  refine wpAnyL_take (i := 2) 36 (v := .pointer (some ⟨q, 0, none⟩)) rfl rfl (by kernel_rfl) (by kernel_rfl) (by kernel_rfl) (by kernel_rfl) (by kernel_rfl) (by kernel_rfl) (fun _ _ _ h => h) hS (by rfl) (by intro w' hSw; have y0 := hSw; go_simp <;> with_reducible rfl) ?_
  simp only [Act.put, List.setIfInBounds_toArray, List.set_cons_zero, List.set_cons_succ]
  refine wpAnyL_take (i := 3) 37 (v := .pointer (some ⟨p, 0, none⟩)) rfl rfl (by kernel_rfl) (by kernel_rfl) (by kernel_rfl) (by kernel_rfl) (by kernel_rfl) (by kernel_rfl) (fun _ _ _ h => h) hS (by rfl) (by intro w' hSw; have y0 := hSw; go_simp <;> with_reducible rfl) ?_
  simp only [Act.put, List.setIfInBounds_toArray, List.set_cons_zero, List.set_cons_succ]
  refine wpAnyL_take (i := 4) 38 (v := .int .i64 n) rfl rfl (by kernel_rfl) (by kernel_rfl) (by kernel_rfl) (by kernel_rfl) (by kernel_rfl) (by kernel_rfl) (fun _ _ _ h => h) hS (by rfl) (by intro w' hSw; have y0 := hSw; go_simp <;> with_reducible rfl) ?_
  simp only [Act.put, List.setIfInBounds_toArray, List.set_cons_zero, List.set_cons_succ]
  refine wpAnyL_one (i := 5) (by kernel_rfl) rfl (fun Ka hKa => ?_)
  go_simp
  refine Calls.mono (hN _) ?_
  rintro r w5 ⟨rfl, hw5⟩
  rw [hw5]
  refine hKa.out _ _ (fun _ => hS) ?_
  clear hKa Ka hw5
  try simp only [Act.put, List.setIfInBounds_toArray, List.set_cons_zero, List.set_cons_succ]
  refine wpAnyL_one (i := 6) (by kernel_rfl) rfl (fun Ka hKa => ?_)
  go_simp
  refine Calls.mono hRm ?_
  rintro r w6 ⟨er, rfl, e1, e2⟩
  have E1 : Hid (SA Xm w6 B q p (K.drop n) (c + 1)) := e1
  have E2 : Hid (FrT Xm B Wd w6) := e2
  refine hKa.out _ _ (fun h => absurd h (Bool.eq_false_iff.1 (by kernel_rfl))) ?_
  clear hKa Ka e1 e2 hRm hS hN
  try simp only [Act.put, List.setIfInBounds_toArray, List.set_cons_zero, List.set_cons_succ]
  refine wpAnyL_done (by kernel_rfl) ?_ _
  go_wp2
  go_ret
  exact ⟨rfl, E1.out, HFd.out.trans E2.out⟩
set_option maxRecDepth 100000 in
theorem sdrop_none (h : SA Xm w B q p K c) (hi : I6 n) (hf : K.f n = none) : Calls Tryd.prog 8 #[.pointer (some ⟨q, 0, none⟩), .int .i64 n] w fun r w' => r = .returned (.bool false) ∧ Below w.heap.size w w' := by
  obtain ⟨A, mb, mv, h⟩ := h
  have hlk := h.tx.lookOk mtH hi
  rw [heldO_some, hf, heldO_none hf] at hlk
  change _ = Result.ok (Value.tuple #[.agg #[.string (str []), .bool false, .int .u32 0], .bool false]) w at hlk
  have c2 := h.blk.cells.2.2.1
  clear h hf
  go_enter Tryd.func8, Tryd.ntmps8
  go_upto_region 4 with (refine wpList_store_row rfl 51 _ _ rfl _ #[.string (str []), .bool false, .int .u32 0] rfl rfl 51 #[.string (str []), .bool false, .int .u32 0] (heap_alloc_new _ _) size_held rfl (by simp [Value.oneCell']) ?_)
  generalize hW : World.setRow _ _ _ = W1
  have HB1 : Hid (Below w.heap.size w W1) := by
    show Below _ _ _
    rw [← hW]
    exact ((Fr.alloc w _ (fun _ => False)).trans (st_setRow _ _ _) (fun i hi e => absurd e (by omega))).below (Nat.le_refl _) (fun _ h => h.elim)
  clear hW c2 hlk
  go_wp2
  go_ret
  exact ⟨rfl, HB1.out⟩
end
end Go.Proofs.YtjemnkijoiehmaaDoor
end

section
/- store: on plain data: what Get, Put and Drop make of a store; where nothing need go. -/
namespace Go.Proofs.YtjemnkijoiehmaaDoor
def St.getK (K : St) (n : Int) : St := match K.f n with
  | some s => K.use n s
  | none => K
def okN (n : Int) : Bool := decide (0 ≤ n) && decide (n < 16)
theorem okN_iff {n : Int} : okN n = true ↔ 0 ≤ n ∧ n < 16 := by
  unfold okN
  rw [Bool.and_eq_true, decide_eq_true_eq, decide_eq_true_eq]
def St.putK (K : St) (n : Int) (t : Bs) : St := if okN n = true then K.use n t else K
def St.dropK (K : St) (n : Int) : St := if (K.f n).isSome = true then K.drop n else K
def putO (f : Int → Option Bs) (n : Int) (t : Bs) : Int → Option Bs := if okN n = true then setO f n t else f
def drpO (f : Int → Option Bs) (n : Int) : Int → Option Bs := cutO' f n
section
variable {K : St} {n : Int} {t : Bs}
theorem setO_self {f : Int → Option Bs} {s : Bs} (h : f n = some s) : setO f n s = f := by
  funext x
  by_cases e : x = n
  · rw [e, set_same, h]
  · rw [set_ne e]
theorem cutO_self {f : Int → Option Bs} (h : f n = none) : cutO' f n = f := by
  funext x
  by_cases e : x = n
  · rw [e, cut_same, h]
  · rw [cut_ne e]
theorem St.getK_f (K : St) (n : Int) : (K.getK n).f = K.f := by
  unfold St.getK
  split
  · rename_i s h
    exact setO_self h
  · rfl
theorem St.putK_f (K : St) (n : Int) (t : Bs) : (K.putK n t).f = putO K.f n t := by
  unfold St.putK putO
  split <;> rfl
theorem St.dropK_f (K : St) (n : Int) : (K.dropK n).f = drpO K.f n := by
  unfold St.dropK drpO
  split
  · rfl
  · rename_i h
    rw [cutO_self]
    cases e : K.f n with
    | none => rfl
    | some s => rw [e] at h; exact absurd rfl h
theorem St.go_le (h : K.ok) : K.go n t ≤ 16 := by
  have h1 := goN_le (heldO K.f K.near) K.bud (woI K.near n) (byt (heldO K.f K.near) (woI K.near n) + t.length)
  have h2 := woI_le K.near n
  have h3 := h.few
  unfold St.go
  omega
theorem St.getK_sp (h : K.ok) : (K.getK n).sp ≤ K.sp + 16 := by
  unfold St.getK
  split
  · rename_i s _
    have := St.go_le (n := n) (t := s) h
    show K.sp + _ ≤ _
    omega
  · omega
theorem St.putK_sp (h : K.ok) : (K.putK n t).sp ≤ K.sp + 16 := by
  unfold St.putK
  split
  · have := St.go_le (n := n) (t := t) h
    show K.sp + _ ≤ _
    omega
  · omega
theorem St.dropK_sp : (K.dropK n).sp = K.sp := by
  unfold St.dropK
  split <;> rfl
theorem St.getK_bud : (K.getK n).bud = K.bud := by
  unfold St.getK
  split <;> rfl
theorem St.putK_bud : (K.putK n t).bud = K.bud := by
  unfold St.putK
  split <;> rfl
theorem St.dropK_bud : (K.dropK n).bud = K.bud := by
  unfold St.dropK
  split <;> rfl
end
/-- The bytes of the texts of some numbers. -/
def lenO (f : Int → Option Bs) (x : Int) : Nat := ((f x).getD []).length
def totL (f : Int → Option Bs) (M : List Int) : Nat := (M.map (lenO f)).sum
theorem totL_cons (f : Int → Option Bs) (a : Int) (r : List Int) : totL f (a :: r) = lenO f a + totL f r := by unfold totL; rw [List.map_cons, List.sum_cons]
theorem totL_erase (f : Int → Option Bs) {a : Int} {M : List Int} (h : a ∈ M) : totL f M = lenO f a + totL f (M.erase a) := by
  induction M with
  | nil => cases h
  | cons m r ih =>
    by_cases e : m = a
    · subst e
      rw [List.erase_cons_head, totL_cons]
    · have h2 : a ∈ r := (List.mem_cons.1 h).resolve_left (fun hh => e hh.symm)
      rw [List.erase_cons_tail (by simpa using e), totL_cons, totL_cons, ih h2]
      omega
theorem totL_sub (f : Int → Option Bs) (L : List Int) : ∀ (M : List Int), L.Nodup → (∀ x ∈ L, x ∈ M) → totL f L ≤ totL f M := by
  induction L with
  | nil => intro M _ _; exact Nat.zero_le _
  | cons a r ih =>
    intro M hL hM
    have h1 := List.nodup_cons.1 hL
    have h2 := ih (M.erase a) h1.2 (fun x hx => (List.mem_erase_of_ne (fun e => h1.1 (by rw [← e]; exact hx))).2 (hM x (List.mem_cons_of_mem _ hx)))
    rw [totL_cons, totL_erase f (hM a (List.mem_cons_self ..))]
    omega
theorem totL_ne (f g : Int → Option Bs) (M : List Int) (h : ∀ x ∈ M, f x = g x) : totL f M = totL g M := by
  induction M with
  | nil => rfl
  | cons m r ih =>
    rw [totL_cons, totL_cons, ih (fun x hx => h x (List.mem_cons_of_mem _ hx))]
    unfold lenO
    rw [h m (List.mem_cons_self ..)]
theorem totL_set (f : Int → Option Bs) (n : Int) (t : Bs) (M : List Int) (h : M.Nodup) : totL (setO f n t) M ≤ totL f M + t.length := by
  induction M with
  | nil => exact Nat.zero_le _
  | cons m r ih =>
    have h1 := List.nodup_cons.1 h
    rw [totL_cons, totL_cons]
    by_cases e : m = n
    · have h2 : totL (setO f n t) r = totL f r := totL_ne _ _ _ (fun x hx => set_ne (fun hh => h1.1 (by rw [e, ← hh]; exact hx)))
      have h3 : lenO (setO f n t) m = t.length := by unfold lenO; rw [e, set_same]; rfl
      omega
    · have h2 := ih h1.2
      have h3 : lenO (setO f n t) m = lenO f m := by unfold lenO; rw [set_ne e]
      omega
theorem totL_cut (f : Int → Option Bs) (n : Int) (M : List Int) : totL (cutO' f n) M ≤ totL f M := by
  induction M with
  | nil => exact Nat.le_refl _
  | cons m r ih =>
    rw [totL_cons, totL_cons]
    have h3 : lenO (cutO' f n) m ≤ lenO f m := by
      unfold lenO
      by_cases e : m = n
      · rw [e, cut_same]; exact Nat.zero_le _
      · rw [cut_ne e]; exact Nat.le_refl _
    omega
section
variable {K : St} {n : Int} {t : Bs}
theorem held_lenH (f : Int → Option Bs) (near : List Int) (x : Int) : lenH (heldO f near) x ≤ lenO f x := by
  unfold lenH lenO
  cases hf : f x with
  | none => rw [heldO_none hf]; exact Nat.le_refl _
  | some s =>
    by_cases hx : x ∈ near
    · rw [heldO_near hf hx]; exact Nat.le_refl _
    · rw [heldO_away hf hx]; exact Nat.zero_le _
theorem byt_totL (f : Int → Option Bs) (near : List Int) (L : List Int) : byt (heldO f near) L ≤ totL f L := by
  induction L with
  | nil => exact Nat.le_refl _
  | cons m r ih =>
    have := held_lenH f near m
    rw [byt_cons, totL_cons]
    omega
/-- Where all texts together fit, nothing goes. -/
theorem go_zero (h : K.ok) (h0 : 0 ≤ n) (h1 : n < 16) (hT : ((totL (setO K.f n t) nums : Nat) : Int) ≤ K.bud) : K.go n t = 0 := by
  have hb := byt_totL K.f K.near (woI K.near n)
  have he : totL K.f (woI K.near n) = totL (setO K.f n t) (woI K.near n) := totL_ne _ _ _ (fun x hx => (set_ne (mem_woI.1 hx).2).symm)
  have hs : totL (setO K.f n t) (n :: woI K.near n) ≤ totL (setO K.f n t) nums := by
    refine totL_sub _ _ _ (List.nodup_cons.2 ⟨woI_not _ _, woI_nodup h.nd⟩) (fun x hx => ?_)
    rcases List.mem_cons.1 hx with e | e
    · rw [e]; exact mem_nums.2 ⟨h0, h1⟩
    · exact mem_nums.2 (h.sup x (h.sub x (mem_woI.1 e).1))
  rw [totL_cons] at hs
  have hl : lenO (setO K.f n t) n = t.length := by unfold lenO; rw [set_same]; rfl
  unfold St.go
  cases hL : woI K.near n with
  | nil => rfl
  | cons a r =>
    rw [hL] at hb he hs
    unfold goN
    rw [if_pos (by omega)]
theorem St.getK_zero (h : K.ok) (hz : K.sp = 0) (hT : ((totL K.f nums : Nat) : Int) ≤ K.bud) : (K.getK n).sp = 0 := by
  unfold St.getK
  split
  · rename_i s hf
    have hr := h.sup n (by rw [hf]; rfl)
    show K.sp + K.go n s = 0
    rw [go_zero h hr.1 hr.2 (by rw [setO_self hf]; exact hT), hz]
  · exact hz
theorem St.putK_zero (h : K.ok) (hz : K.sp = 0) (hT : ((totL (putO K.f n t) nums : Nat) : Int) ≤ K.bud) : (K.putK n t).sp = 0 := by
  unfold St.putK
  unfold putO at hT
  split
  · rename_i ho
    rw [if_pos ho] at hT
    have hr := okN_iff.1 ho
    show K.sp + K.go n t = 0
    rw [go_zero h hr.1 hr.2 hT, hz]
  · exact hz
theorem totL_put (f : Int → Option Bs) (n : Int) (t : Bs) : totL (putO f n t) nums ≤ totL f nums + t.length := by
  unfold putO
  split
  · exact totL_set f n t nums nums_nodup
  · omega
theorem totL_none : totL (noneO : Int → Option Bs) nums = 0 := by decide +kernel
end
end Go.Proofs.YtjemnkijoiehmaaDoor
end

section
/- store: Get, Put, Drop of any number; two stores side by side. -/
namespace Go.Proofs.YtjemnkijoiehmaaDoor
open Go.RowKit Go.Maps
variable {Xm : Nat → Prop}
/-- What a call leaves of a store. -/
def StQ (Xm : Nat → Prop) (w w' : World) (B q p : Nat) (K : St) (c : Nat) : Prop := SA Xm w' B q p K c ∧ FrT Xm B w w'
section
variable {w : World} {B q p c : Nat} {K : St} {n : Int} {t : Bs}
theorem sget (h : SA Xm w B q p K c) (hB : B ≤ w.heap.size) (hc : c ≤ 900000) (hi : I6 n) (hsp : K.sp ≤ 1000000) : Calls Tryd.prog 7 #[.pointer (some ⟨q, 0, none⟩), .int .i64 n] w fun r w' => r = .returned (fndV (K.f n)) ∧ StQ Xm w w' B q p (K.getK n) (c + 16) := by
  cases hf : K.f n with
  | some s =>
    have e : K.getK n = K.use n s := by unfold St.getK; rw [hf]
    rw [e]
    exact sget_some h hB hc hf hsp
  | none =>
    have e : K.getK n = K := by unfold St.getK; rw [hf]
    rw [e]
    refine Calls.mono (sget_none h hi hf) ?_
    rintro r w' ⟨rfl, hb⟩
    exact ⟨rfl, (h.new hb).mono (by omega), FrT.new hb⟩
theorem sput (h : SA Xm w B q p K c) (hB : B ≤ w.heap.size) (hc : c ≤ 900000) (ht : t.length ≤ 140737488351232) (hsp : K.sp ≤ 1000000) : Calls Tryd.prog 9 #[.pointer (some ⟨q, 0, none⟩), .int .i64 n, .string (str t)] w fun r w' => r = .returned (.int .i64 (if okN n = true then 0 else 1)) ∧ StQ Xm w w' B q p (K.putK n t) (c + 16) := by
  by_cases ho : okN n = true
  · have hr := okN_iff.1 ho
    have e : K.putK n t = K.use n t := by unfold St.putK; rw [if_pos ho]
    rw [e, if_pos ho]
    exact sput_ok h hB hc hr.1 hr.2 ht hsp
  · have hr : n < 0 ∨ 16 ≤ n := by
      rw [okN_iff] at ho
      omega
    have e : K.putK n t = K := by unfold St.putK; rw [if_neg ho]
    rw [e, if_neg ho]
    refine Calls.mono (sput_bad hr) ?_
    rintro r w' ⟨rfl, rfl⟩
    exact ⟨rfl, h.mono (by omega), FrT.refl _ _⟩
theorem sdrop (h : SA Xm w B q p K c) (hB : B ≤ w.heap.size) (hc : c ≤ 900000) (hi : I6 n) : Calls Tryd.prog 8 #[.pointer (some ⟨q, 0, none⟩), .int .i64 n] w fun r w' => r = .returned (.bool (K.f n).isSome) ∧ StQ Xm w w' B q p (K.dropK n) (c + 16) := by
  cases hf : K.f n with
  | some s =>
    have e : K.dropK n = K.drop n := by unfold St.dropK; rw [hf]; rfl
    rw [e]
    refine Calls.mono (sdrop_some h hB hc hf) ?_
    rintro r w' ⟨rfl, h1, h2⟩
    exact ⟨rfl, h1.mono (by omega), h2⟩
  | none =>
    have e : K.dropK n = K := by unfold St.dropK; rw [hf]; rfl
    rw [e]
    refine Calls.mono (sdrop_none h hi hf) ?_
    rintro r w' ⟨rfl, hb⟩
    exact ⟨rfl, (h.new hb).mono (by omega), FrT.new hb⟩
end
/-- Two stores side by side: what the one writes is the other's others'. -/
structure Tw (Xa Xb : Nat → Prop) (B : Nat) (w : World) (qa pa C qb pb : Nat) (Ka Kb : St) (c d : Nat) : Prop where
  a : SA Xa w B qa pa Ka c
  b : SA Xb w C qb pb Kb d
  all : ∀ k, k < w.heap.size → B ≤ k → Xa k ∨ Xb k
  hB : B ≤ C
  hC : C ≤ w.heap.size
def Two (B : Nat) (w : World) (qa pa C qb pb : Nat) (Ka Kb : St) (c d : Nat) : Prop := ∃ Xa Xb, Tw Xa Xb B w qa pa C qb pb Ka Kb c d
section
variable {w w' : World} {B qa pa C qb pb c d e : Nat} {Ka Kb K' : St}
theorem st_tag {Xm : Nat → Prop} {k : Nat} (h : StB Xm w k) : k < w.heap.size := by
  rcases h.1 with ⟨es, c, h⟩ | ⟨c, t, f, h, _⟩
  · exact lt_blk h
  · exact lt_blk h
theorem Tw.onA {Xa Xb : Nat → Prop} (h : Tw Xa Xb B w qa pa C qb pb Ka Kb c d) (hq : StQ Xa w w' B qa pa K' e) : Two B w' qa pa C qb pb K' Kb e d := by
  refine ⟨Xa, _, hq.1, h.b.grow hq.2 (fun k s => (h.all k (st_tag s.2) s.1).resolve_left s.2.2), fun k hk hB => ?_, h.hB, Nat.le_trans h.hC hq.2.size⟩
  by_cases hl : k < w.heap.size
  · exact (h.all k hl hB).elim .inl (fun x => .inr (.inl x))
  · exact .inr (.inr ⟨by omega, hk⟩)
theorem Tw.onB {Xa Xb : Nat → Prop} (h : Tw Xa Xb B w qa pa C qb pb Ka Kb c d) (hq : StQ Xb w w' C qb pb K' e) : Two B w' qa pa C qb pb Ka K' c e := by
  refine ⟨_, Xb, h.a.grow hq.2 (fun k s => (h.all k (st_tag s.2) (Nat.le_trans h.hB s.1)).resolve_right s.2.2), hq.1, fun k hk hB => ?_, h.hB, Nat.le_trans h.hC hq.2.size⟩
  by_cases hl : k < w.heap.size
  · exact (h.all k hl hB).elim (fun x => .inl (.inl x)) .inr
  · exact .inl (.inr ⟨by omega, hk⟩)
theorem Two.new (h : Two B w qa pa C qb pb Ka Kb c d) (hb : Below w.heap.size w w') : Two B w' qa pa C qb pb Ka Kb c d := by
  obtain ⟨Xa, Xb, h⟩ := h
  exact h.onA ⟨h.a.new hb, FrT.new hb⟩
theorem Two.low (h : Two B w qa pa C qb pb Ka Kb c d) : B ≤ w.heap.size := by
  obtain ⟨Xa, Xb, h⟩ := h
  exact Nat.le_trans h.hB h.hC
theorem Two.oka (h : Two B w qa pa C qb pb Ka Kb c d) : Ka.ok := by
  obtain ⟨Xa, Xb, h⟩ := h
  exact h.a.ok
theorem Two.okb (h : Two B w qa pa C qb pb Ka Kb c d) : Kb.ok := by
  obtain ⟨Xa, Xb, h⟩ := h
  exact h.b.ok
theorem Two.callA {f : FuncId} {args : Array Value} {R : Value} (h : Two B w qa pa C qb pb Ka Kb c d) (hf : ∀ Xm, SA Xm w B qa pa Ka c → Calls Tryd.prog f args w fun r w' => r = .returned R ∧ StQ Xm w w' B qa pa K' e) : Calls Tryd.prog f args w fun r w' => r = .returned R ∧ Two B w' qa pa C qb pb K' Kb e d ∧ Below B w w' := by
  obtain ⟨Xa, Xb, h⟩ := h
  refine Calls.mono (hf Xa h.a) ?_
  rintro r w' ⟨rfl, hq⟩
  exact ⟨rfl, h.onA hq, hq.2.below (Nat.le_trans h.hB h.hC)⟩
theorem Two.callB {f : FuncId} {args : Array Value} {R : Value} (h : Two B w qa pa C qb pb Ka Kb c d) (hf : ∀ Xm, SA Xm w C qb pb Kb d → Calls Tryd.prog f args w fun r w' => r = .returned R ∧ StQ Xm w w' C qb pb K' e) : Calls Tryd.prog f args w fun r w' => r = .returned R ∧ Two B w' qa pa C qb pb Ka K' c e ∧ Below B w w' := by
  obtain ⟨Xa, Xb, h⟩ := h
  refine Calls.mono (hf Xb h.b) ?_
  rintro r w' ⟨rfl, hq⟩
  exact ⟨rfl, h.onB hq, (hq.2.below h.hC).mono h.hB⟩
/-- A new disk, all that was there ahead of it being others'. -/
theorem st_newdisk (w : World) : Calls Tryd.prog 5 #[] w fun r w' => r = .returned (.pointer (some ⟨w.heap.size, 0, none⟩)) ∧ DkAt (fun k => k < w.heap.size) w' w.heap.size w.heap.size ⟨[], [], 0, false, .slice none 0 0⟩ ∧ Below w.heap.size w w' := by
  refine Calls.mono (new_any w) ?_
  rintro r w' ⟨rfl, h1, h2⟩
  refine ⟨rfl, ⟨_, _, _, { h1 with nx := fun k e hx => ?_, lx := fun k hk => Nat.lt_of_lt_of_le hk h2.size }⟩, h2⟩
  rcases e with e | e | e | e
  · omega
  · cases e
  · cases e
  · cases e
/-- A second store is made beside the first. -/
theorem Two.made {w0 w1 w2 : World} {qb pb : Nat} {K0 : St} (ha : SA (fun _ => False) w0 B qa pa Ka c) (hB : B ≤ w0.heap.size) (h1 : Below w0.heap.size w0 w1) (hb : SA (fun k => k < w0.heap.size) w2 w0.heap.size qb pb K0 d) (h2 : Below w1.heap.size w1 w2) : Two B w2 qa pa w0.heap.size qb pb Ka K0 c d := by
  have hb2 : Below w0.heap.size w0 w2 := h1.trans (h2.mono h1.size)
  refine ⟨_, _, ha.grow (Fr.ofBelow hb2 (fun _ => False)) (fun _ f => f.elim), hb, fun k hk _ => ?_, hB, hb2.size⟩
  by_cases hl : k < w0.heap.size
  · exact .inr hl
  · exact .inl (.inr ⟨by omega, hk⟩)
end
end Go.Proofs.YtjemnkijoiehmaaDoor
end

section
/- The library's functions at the disk's types: which of the program's functions are the library's. -/
namespace Go.Proofs.YtjemnkijoiehmaaDoor
open Go.Shelf Go.Proofs
def layKeys_ren : Go.Shelf.Ren := ⟨fun | 7 => 19 | 10 => 33 | n => n, fun | 23 => 42 | 26 => 9 | 3 => 61 | 28 => 58 | 0 => 0 | 27 => 57 | 33 => 77 | 4 => 4 | n => n, fun | n => n⟩
theorem layKeys : Go.Proofs.SlLaysZ.n7 Tryd.prog layKeys_ren := {
  mixed := by kernel_rfl,
  f7 := ⟨Tryd.f19.name, by decide, Tryd.func19.trans (congrArg some (by kernel_rfl))⟩,
  f10 := ⟨Tryd.f33.name, by decide, Tryd.func33.trans (congrArg some (by kernel_rfl))⟩,
  t0 := Tryd.underlying0,
  a0 := Tryd.isAgg0,
  z0 := Tryd.sizeOf0,
  v0 := Tryd.zeroValue0,
  t4 := Tryd.underlying4,
  a4 := Tryd.isAgg4,
  z4 := Tryd.sizeOf4,
  v4 := Tryd.zeroValue4,
  t23 := Tryd.underlying42,
  a23 := Tryd.isAgg42,
  z23 := Tryd.sizeOf42,
  v23 := Tryd.zeroValue42,
  t26 := Tryd.underlying9,
  a26 := Tryd.isAgg9,
  z26 := Tryd.sizeOf9,
  v26 := Tryd.zeroValue9,
  t27 := Tryd.underlying57,
  a27 := Tryd.isAgg57,
  z27 := Tryd.sizeOf57,
  v27 := Tryd.zeroValue57,
  t28 := Tryd.underlying58,
  a28 := Tryd.isAgg58,
  z28 := Tryd.sizeOf58,
  v28 := Tryd.zeroValue58,
  t33 := Tryd.underlying77,
  a33 := Tryd.isAgg77,
  z33 := Tryd.sizeOf77,
  v33 := Tryd.zeroValue77 }
def laySorted_ren : Go.Shelf.Ren := ⟨fun | 6 => 18 | 8 => 31 | 9 => 32 | 11 => 51 | 13 => 53 | 12 => 52 | 23 => 72 | 24 => 73 | 14 => 63 | 15 => 64 | 16 => 65 | 17 => 66 | 18 => 67 | 19 => 68 | 20 => 69 | 21 => 70 | 22 => 71 | 25 => 82 | 26 => 83 | 27 => 84 | 28 => 85 | 29 => 86 | 30 => 87 | 31 => 93 | n => n, fun | 26 => 9 | 28 => 58 | 24 => 47 | 0 => 0 | 3 => 3 | 37 => 84 | 48 => 49 | 50 => 102 | 4 => 4 | 40 => 114 | 39 => 113 | 45 => 119 | 5 => 5 | 9 => 9 | 51 => 132 | 55 => 136 | 57 => 143 | 58 => 144 | 33 => 77 | n => n, fun | n => n⟩
theorem laySorted : Go.Proofs.SlLaysZ.n6 Tryd.prog laySorted_ren := {
  mixed := by kernel_rfl,
  f6 := ⟨Tryd.f18.name, by decide, Tryd.func18.trans (congrArg some (by kernel_rfl))⟩,
  f8 := ⟨Tryd.f31.name, by decide, Tryd.func31.trans (congrArg some (by kernel_rfl))⟩,
  f11 := ⟨Tryd.f51.name, by decide, Tryd.func51.trans (congrArg some (by kernel_rfl))⟩,
  t0 := Tryd.underlying0,
  a0 := Tryd.isAgg0,
  z0 := Tryd.sizeOf0,
  v0 := Tryd.zeroValue0,
  t24 := Tryd.underlying47,
  a24 := Tryd.isAgg47,
  z24 := Tryd.sizeOf47,
  v24 := Tryd.zeroValue47,
  t26 := Tryd.underlying9,
  a26 := Tryd.isAgg9,
  z26 := Tryd.sizeOf9,
  v26 := Tryd.zeroValue9,
  t28 := Tryd.underlying58,
  a28 := Tryd.isAgg58,
  z28 := Tryd.sizeOf58,
  v28 := Tryd.zeroValue58,
  i26 := by kernel_rfl }
def laySortS_ren : Go.Shelf.Ren := ⟨fun | 6 => 32 | 8 => 53 | 9 => 52 | 19 => 72 | 20 => 73 | 21 => 63 | 22 => 64 | 23 => 65 | 24 => 66 | 25 => 67 | 26 => 68 | 27 => 69 | 28 => 70 | 29 => 71 | 36 => 82 | 31 => 83 | 32 => 84 | 37 => 85 | 38 => 86 | 39 => 87 | 41 => 93 | n => n, fun | 27 => 47 | 29 => 9 | 3 => 3 | 32 => 84 | 26 => 47 | 0 => 0 | 44 => 49 | 46 => 102 | 4 => 4 | 36 => 114 | 35 => 113 | 41 => 119 | 5 => 5 | 9 => 9 | 53 => 132 | 57 => 136 | 63 => 143 | 64 => 144 | n => n, fun | n => n⟩
theorem laySortS : Go.Proofs.SlLaysM.n6 Tryd.prog laySortS_ren := {
  mixed := by kernel_rfl,
  f6 := ⟨Tryd.f32.name, by decide, Tryd.func32.trans (congrArg some (by kernel_rfl))⟩,
  f8 := Tryd.func53.trans (congrArg some (by kernel_rfl)),
  f9 := ⟨Tryd.f52.name, by decide, Tryd.func52.trans (congrArg some (by kernel_rfl))⟩,
  f19 := Tryd.func72.trans (congrArg some (by kernel_rfl)),
  f20 := Tryd.func73.trans (congrArg some (by kernel_rfl)),
  f21 := ⟨Tryd.f63.name, by decide, Tryd.func63.trans (congrArg some (by kernel_rfl))⟩,
  f22 := ⟨Tryd.f64.name, by decide, Tryd.func64.trans (congrArg some (by kernel_rfl))⟩,
  f23 := ⟨Tryd.f65.name, by decide, Tryd.func65.trans (congrArg some (by kernel_rfl))⟩,
  f24 := ⟨Tryd.f66.name, by decide, Tryd.func66.trans (congrArg some (by kernel_rfl))⟩,
  f25 := ⟨Tryd.f67.name, by decide, Tryd.func67.trans (congrArg some (by kernel_rfl))⟩,
  f26 := ⟨Tryd.f68.name, by decide, Tryd.func68.trans (congrArg some (by kernel_rfl))⟩,
  f27 := ⟨Tryd.f69.name, by decide, Tryd.func69.trans (congrArg some (by kernel_rfl))⟩,
  f28 := ⟨Tryd.f70.name, by decide, Tryd.func70.trans (congrArg some (by kernel_rfl))⟩,
  f29 := ⟨Tryd.f71.name, by decide, Tryd.func71.trans (congrArg some (by kernel_rfl))⟩,
  f31 := Tryd.func83.trans (congrArg some (by kernel_rfl)),
  f32 := Tryd.func84.trans (congrArg some (by kernel_rfl)),
  f36 := ⟨Tryd.f82.name, by decide, Tryd.func82.trans (congrArg some (by kernel_rfl))⟩,
  f37 := ⟨Tryd.f85.name, by decide, Tryd.func85.trans (congrArg some (by kernel_rfl))⟩,
  f38 := ⟨Tryd.f86.name, by decide, Tryd.func86.trans (congrArg some (by kernel_rfl))⟩,
  f39 := ⟨Tryd.f87.name, by decide, Tryd.func87.trans (congrArg some (by kernel_rfl))⟩,
  f41 := ⟨Tryd.f93.name, by decide, Tryd.func93.trans (congrArg some (by kernel_rfl))⟩,
  t0 := Tryd.underlying0,
  a0 := Tryd.isAgg0,
  z0 := Tryd.sizeOf0,
  v0 := Tryd.zeroValue0,
  t3 := Tryd.underlying3,
  a3 := Tryd.isAgg3,
  z3 := Tryd.sizeOf3,
  v3 := Tryd.zeroValue3,
  t4 := Tryd.underlying4,
  a4 := Tryd.isAgg4,
  z4 := Tryd.sizeOf4,
  v4 := Tryd.zeroValue4,
  t5 := Tryd.underlying5,
  a5 := Tryd.isAgg5,
  z5 := Tryd.sizeOf5,
  v5 := Tryd.zeroValue5,
  t9 := Tryd.underlying9,
  a9 := Tryd.isAgg9,
  z9 := Tryd.sizeOf9,
  v9 := Tryd.zeroValue9,
  t26 := Tryd.underlying47,
  a26 := Tryd.isAgg47,
  z26 := Tryd.sizeOf47,
  v26 := Tryd.zeroValue47,
  t27 := Tryd.underlying47,
  a27 := Tryd.isAgg47,
  z27 := Tryd.sizeOf47,
  v27 := Tryd.zeroValue47,
  t29 := Tryd.underlying9,
  a29 := Tryd.isAgg9,
  z29 := Tryd.sizeOf9,
  v29 := Tryd.zeroValue9,
  t32 := Tryd.underlying84,
  a32 := Tryd.isAgg84,
  z32 := Tryd.sizeOf84,
  v32 := Tryd.zeroValue84,
  t35 := Tryd.underlying113,
  a35 := Tryd.isAgg113,
  z35 := Tryd.sizeOf113,
  v35 := Tryd.zeroValue113,
  t36 := Tryd.underlying114,
  a36 := Tryd.isAgg114,
  z36 := Tryd.sizeOf114,
  v36 := Tryd.zeroValue114,
  t41 := Tryd.underlying119,
  a41 := Tryd.isAgg119,
  z41 := Tryd.sizeOf119,
  v41 := Tryd.zeroValue119,
  t44 := Tryd.underlying49,
  a44 := Tryd.isAgg49,
  z44 := Tryd.sizeOf49,
  v44 := Tryd.zeroValue49,
  t46 := Tryd.underlying102,
  a46 := Tryd.isAgg102,
  z46 := Tryd.sizeOf102,
  v46 := Tryd.zeroValue102,
  t53 := Tryd.underlying132,
  a53 := Tryd.isAgg132,
  z53 := Tryd.sizeOf132,
  v53 := Tryd.zeroValue132,
  t57 := Tryd.underlying136,
  a57 := Tryd.isAgg136,
  z57 := Tryd.sizeOf136,
  v57 := Tryd.zeroValue136,
  t63 := Tryd.underlying143,
  a63 := Tryd.isAgg143,
  z63 := Tryd.sizeOf143,
  v63 := Tryd.zeroValue143,
  t64 := Tryd.underlying144,
  a64 := Tryd.isAgg144,
  z64 := Tryd.sizeOf144,
  v64 := Tryd.zeroValue144 }
end Go.Proofs.YtjemnkijoiehmaaDoor
end

section
/- The names of all files, sorted. -/
namespace Go.Proofs.YtjemnkijoiehmaaDoor
open Go.RowKit Go.Maps Go.Sort Go.Shelf
variable {Xm : Nat → Prop}
theorem sortsS (m : Nat) : AnyZ.SortsIn Tryd.prog laySorted_ren Fence.wide m :=
  ⟨fun blk off cap ss W hH hblk hsz => callsIn_wide.2 (AnyM.slices_Sort_string laySortS blk off cap ss W hH hblk hsz),
   fun p cap W => callsIn_wide.2 (AnyM.slices_Sort_string_none laySortS p cap W)⟩
theorem names_sorted {l : Fl} (hs : SortF l) {ss : List Bs} (h : ss.Perm (l.map (·.1))) : ss.mergeSort (fun x y => decide (x ≤ y)) = l.map (·.1) := by
  refine (mergeSort_of_perm h).trans (List.mergeSort_of_pairwise ?_)
  refine List.pairwise_map.2 (List.Pairwise.imp ?_ hs)
  intro a b hab
  exact decide_eq_true (List.le_of_lt hab)
set_option maxHeartbeats 1000000 in
theorem names_some {w : World} {B p : Nat} {A : Dk} {ms : Option Nat} {lv : Value} {a : Nat} (h : DA Xm w B p A (some a) ms lv) (hd : A.dead = false) (hn : A.now.length ≤ 1000000) : Calls Tryd.prog 11 #[.pointer (some ⟨p, 0, none⟩)] w fun e w' => ∃ v, e = .returned v ∧ w'.ownsRow w.heap.size 9 1 v A.now.length ((A.now.map (·.1)).map encStr) ∧ Below w.heap.size w w' := by
  obtain ⟨c0, _, _, _, _, _⟩ := h.cells
  have hDe := dead_any h
  rw [hd] at hDe
  obtain ⟨hs, D0, ⟨nn, hown⟩, hat⟩ : FMap w a A.now := h.now
  have hperm := keys_perm hs hown (fun k => (hat k).1)
  have hsz := size_is hs hown (fun k => (hat k).1)
  have HP : Hid (∀ ss : List Bs, ss.Perm (strKeys D0) → ss.mergeSort (fun x y => decide (x ≤ y)) = A.now.map (·.1) ∧ ss.length = A.now.length) := fun ss hss => ⟨names_sorted hs (hss.trans hperm.symm), by rw [(hss.trans hperm.symm).length_eq, List.length_map]⟩
  refine (callsIn_wide (n := 6)).1 ?_
  have hbl := hown.lt
  have hseq : SeqGives Fence.wide 2 Tryd.prog 33 #[.pointer (some ⟨w.heap.size, 0, none⟩)] encStr (fun ss => ss.Perm (strKeys D0)) (Maps.size D0) (w.alloc (.cells #[.map (some a)] 42)) :=
    AnyZ.keys_gives (ρ := layKeys_ren) { layKeys with } Fence.wide _ trivial rfl (by omega) w.heap.size a nn D0 _ (by simp) (by simp) (by
      obtain ⟨es, clock, hb, Ft, hs, hD⟩ := hown
      exact ⟨es, clock, (Below.heap_alloc _ _ a hbl).trans hb, Ft, hs, hD⟩)
  have cK : ∀ mb W, CallsIn Fence.wide 5 Tryd.prog 19 #[.map mb] W fun e w' => e = .returned (.func (.func 33) #[] #[.pointer (some ⟨W.heap.size, 0, none⟩)]) ∧ w' = W.alloc (.cells #[.map mb] 42) := fun mb W => AnyZ.keys_in layKeys Fence.wide 5 trivial rfl mb W
  have cS := AnyZ.sorted_in laySorted Fence.wide 5 trivial trivial trivial trivial rfl (by omega) (sortsS _) (enters_of Tryd.func32 (by kernel_rfl) rfl) 33 #[.pointer (some ⟨w.heap.size, 0, none⟩)] trivial (enters_of Tryd.func33 (by kernel_rfl) rfl) _ _ (by rw [hsz]; unfold maxLen; omega) (by rw [hsz]; omega) _ hseq
  change CallsIn _ _ Tryd.prog 18 _ _ _ at cS
  have cD : CallsIn Fence.wide 5 Tryd.prog 17 #[.pointer (some ⟨p, 0, none⟩)] w fun r w' => r = .returned (.bool false) ∧ w' = w := callsIn_wide.2 hDe
  have hfK : Fence.wide.fn 19 := trivial
  have hfS : Fence.wide.fn 18 := trivial
  have hfD : Fence.wide.fn 17 := trivial
  clear hperm hsz hat hown hs hDe h
  refine callsIn_of_wp Tryd.func11 rfl trivial ?_ rfl
  simp only [Tryd.ntmps11, List.size_toArray, List.length_cons, List.length_nil, Nat.reduceAdd, Nat.reduceSub, Array.replicate_succ, Array.replicate_zero, List.push_toArray, List.append_toArray, List.nil_append, List.cons_append]
  gi_wp2_with (first
    | (gi_at_call 17; refine cD.mono ?_; rintro e w ⟨rfl, rfl⟩)
    | (gi_at_call 19; refine (cK _ _).mono ?_; rintro e w' ⟨rfl, rfl⟩)
    | (gi_at_call 18; refine cS.mono ?_; rintro e w' ⟨v, ss, rfl, hS, hrow, hnil, hb⟩))
  go_ret
  obtain ⟨e1, e2⟩ := HP.out ss hS
  rw [e1, e2] at hrow
  exact ⟨v, rfl, ownsRow_base_a hrow (by simp), ((Below.refl _ w).alloc (Nat.le_refl _) _).trans (hb.mono (by simp))⟩
set_option maxHeartbeats 1000000 in
theorem names_nil {w : World} {B p : Nat} {A : Dk} {ms : Option Nat} {lv : Value} (h : DA Xm w B p A none ms lv) (hd : A.dead = false) : Calls Tryd.prog 11 #[.pointer (some ⟨p, 0, none⟩)] w fun e w' => e = .returned (.slice none 0 0) ∧ Below w.heap.size w w' := by
  obtain ⟨c0, _, _, _, _, _⟩ := h.cells
  have hDe := dead_any h
  rw [hd] at hDe
  refine (callsIn_wide (n := 6)).1 ?_
  have hseq : SeqGives Fence.wide 2 Tryd.prog 33 #[.pointer (some ⟨w.heap.size, 0, none⟩)] encStr (fun ss : List (List UInt8) => ss = []) 0 (w.alloc (.cells #[.map none] 42)) :=
    AnyZ.keys_gives_nil (ρ := layKeys_ren) { layKeys with } Fence.wide _ trivial rfl w.heap.size _ (by simp) (by simp)
  have cK : ∀ mb W, CallsIn Fence.wide 5 Tryd.prog 19 #[.map mb] W fun e w' => e = .returned (.func (.func 33) #[] #[.pointer (some ⟨W.heap.size, 0, none⟩)]) ∧ w' = W.alloc (.cells #[.map mb] 42) := fun mb W => AnyZ.keys_in layKeys Fence.wide 5 trivial rfl mb W
  have cS := AnyZ.sorted_in laySorted Fence.wide 5 trivial trivial trivial trivial rfl (by omega) (sortsS _) (enters_of Tryd.func32 (by kernel_rfl) rfl) 33 #[.pointer (some ⟨w.heap.size, 0, none⟩)] trivial (enters_of Tryd.func33 (by kernel_rfl) rfl) _ 0 (Nat.zero_le _) (by omega) _ hseq
  change CallsIn _ _ Tryd.prog 18 _ _ _ at cS
  have cD : CallsIn Fence.wide 5 Tryd.prog 17 #[.pointer (some ⟨p, 0, none⟩)] w fun r w' => r = .returned (.bool false) ∧ w' = w := callsIn_wide.2 hDe
  have hfK : Fence.wide.fn 19 := trivial
  have hfS : Fence.wide.fn 18 := trivial
  have hfD : Fence.wide.fn 17 := trivial
  clear hDe h
  refine callsIn_of_wp Tryd.func11 rfl trivial ?_ rfl
  simp only [Tryd.ntmps11, List.size_toArray, List.length_cons, List.length_nil, Nat.reduceAdd, Nat.reduceSub, Array.replicate_succ, Array.replicate_zero, List.push_toArray, List.append_toArray, List.nil_append, List.cons_append]
  gi_wp2_with (first
    | (gi_at_call 17; refine cD.mono ?_; rintro e w ⟨rfl, rfl⟩)
    | (gi_at_call 19; refine (cK _ _).mono ?_; rintro e w' ⟨rfl, rfl⟩)
    | (gi_at_call 18; refine cS.mono ?_; rintro e w' ⟨v, ss, rfl, rfl, hrow, hnil, hb⟩; obtain rfl : v = .slice none 0 0 := hnil.2 rfl))
  go_ret
  exact ⟨rfl, ((Below.refl _ w).alloc (Nat.le_refl _) _).trans (hb.mono (by simp))⟩
theorem names_any {w : World} {B p : Nat} {A : Dk} {mn ms : Option Nat} {lv : Value} (h : DA Xm w B p A mn ms lv) (hd : A.dead = false) (hn : A.now.length ≤ 1000000) : Calls Tryd.prog 11 #[.pointer (some ⟨p, 0, none⟩)] w fun e w' => ∃ v, e = .returned v ∧ w'.ownsRow w.heap.size 9 1 v A.now.length ((A.now.map (·.1)).map encStr) ∧ Below w.heap.size w w' := by
  cases mn with
  | some a => exact names_some h hd hn
  | none =>
    have e : A.now = [] := h.now
    refine (names_nil h hd).mono ?_
    rintro r w' ⟨rfl, hb⟩
    exact ⟨_, rfl, by rw [e]; exact ⟨rfl, .inl ⟨rfl, rfl⟩⟩, hb⟩
end Go.Proofs.YtjemnkijoiehmaaDoor
end

section
/- store: stage 19's awake. -/
namespace Go.Proofs.YtjemnkijoiehmaaDoor
open Go.RowKit Go.Maps
attribute [local go_sem] Oper.semAt_some
def KA1 : St := (St.new 3).use 0 [97, 98]
def KA2 : St := KA1.use 1 [99, 100]
def KA3 : St := KA2.use 0 [97, 98]
theorem ka1_sp : KA1.sp = 0 := by decide +kernel
theorem ka2_sp : KA2.sp = 1 := by decide +kernel
theorem ka3_sp : KA3.sp = 2 := by decide +kernel
theorem ka2_f : KA2.f 0 = some [97, 98] := by decide +kernel
theorem ka3_f : KA3.f 1 = some [99, 100] := by decide +kernel
theorem ka3_near : ¬ (1 : Int) ∈ KA3.near := by decide +kernel
/-- The files' names: at least one. -/
theorem snames {w : World} {B q p c : Nat} {Xm : Nat → Prop} {K : St} {x : Int} {s : Bs} (h : SA Xm w B q p K c) (hc : c ≤ 900000) (hf : K.f x = some s) (hx : x ∉ K.near) : Calls Tryd.prog 11 #[.pointer (some ⟨p, 0, none⟩)] w fun r w' => ∃ ao l cp, r = .returned (.slice ao l cp) ∧ 0 < l ∧ Below w.heap.size w w' := by
  obtain ⟨A, mb, mv, h⟩ := h
  have hg := h.fl x s hf hx
  have hl := h.di.len
  obtain ⟨mn, ms, lv, hA⟩ := h.dk
  refine Calls.mono (names_any hA h.di.dead (by omega)) ?_
  rintro r w' ⟨v, rfl, hr, hb⟩
  have h0 : 0 < A.now.length := by
    cases e : A.now with
    | nil => rw [e] at hg; cases hg
    | cons a r => exact Nat.succ_pos _
  rcases hr.2 with ⟨_, h2⟩ | ⟨g, cap, cur, rfl, _⟩
  · omega
  · exact ⟨_, _, _, rfl, h0, hb⟩
set_option linter.unusedSimpArgs false in
set_option maxRecDepth 100000 in
set_option maxHeartbeats 2000000 in
theorem awake19 (w : World) : Calls Tryd.prog 6 #[] w fun r w' => r = .returned (.bool true) ∧ Below w.heap.size w w' := by
  have hN := new_any w
  go_enter Tryd.func6, Tryd.ntmps6
  go_upto_region 2 with (go_at_call 5; refine Calls.mono hN ?_; rintro r w1 ⟨rfl, e1, e2⟩; have HD1 : Hid (DkAt (fun _ => False) w1 w.heap.size w.heap.size ⟨[], [], 0, false, .slice none 0 0⟩) := ⟨_, _, _, e1⟩; have HB1 : Hid (Below w.heap.size w w1) := e2; clear e1 e2 hN)
  have hNw := snew_ok (bud := 3) HD1.out HB1.out.size (by decide) (by decide)
  obtain ⟨p, hp⟩ : ∃ p, w.heap.size = p := ⟨_, rfl⟩
  rw [hp] at HD1 hNw
  have HP : Hid (w.heap.size = p) := hp
  rw [hp]
  have hs1 : p ≤ w1.heap.size := by rw [← hp]; exact HB1.out.size
  have HS1 : Hid (p ≤ w1.heap.size) := hs1
  clear hp hs1
  go_upto_region 3 with (go_at_call 4; refine Calls.mono hNw ?_; rintro r w2 ⟨rfl, e1, e2⟩; have HA2 : Hid (SA (fun _ => False) w2 p w1.heap.size p (St.new 3) 0) := e1; have HB2 : Hid (Below w1.heap.size w1 w2) := e2; clear e1 e2 hNw)
  have HS2 : Hid (p ≤ w2.heap.size) := Nat.le_trans HS1.out HB2.out.size
  have hP0 := sput_ok (n := 0) (t := [97, 98]) HA2.out HS2.out (by decide) (by decide) (by decide) (by decide) (by decide)
  have HQ : Hid (p ≤ w1.heap.size) := HS1.out
  generalize w1.heap.size = q at HA2 HB2 hP0 HQ ⊢
  go_upto_region 4 with (first
    | (go_at_call 9; refine Calls.mono hP0 ?_; rintro r w3 ⟨rfl, e1, e2⟩; have HA3 : Hid (SA (fun _ => False) w3 p q p KA1 16) := e1; have HF3 : Hid (FrT (fun _ => False) p w2 w3) := e2; have HS3 : Hid (p ≤ w3.heap.size) := Nat.le_trans HS2.out e2.size; have hP1 := sput_ok (n := 1) (t := [99, 100]) HA3.out HS3.out (by decide) (by decide) (by decide) (by decide) (by rw [ka1_sp]; decide); clear e1 e2 hP0)
    | (go_at_call 9; refine Calls.mono hP1 ?_; rintro r w4 ⟨rfl, e1, e2⟩; have HA4 : Hid (SA (fun _ => False) w4 p q p KA2 32) := e1; have HF4 : Hid (FrT (fun _ => False) p w3 w4) := e2; have HS4 : Hid (p ≤ w4.heap.size) := Nat.le_trans HS3.out e2.size; clear e1 e2 hP1))
  have hG := sget_some HA4.out HS4.out (by decide) ka2_f (by rw [ka2_sp]; decide)
  go_upto_region 6 with (go_at_call 7; refine Calls.mono hG ?_; rintro r w5 ⟨rfl, e1, e2⟩; have HA5 : Hid (SA (fun _ => False) w5 p q p KA3 48) := e1; have HF5 : Hid (FrT (fun _ => False) p w4 w5) := e2; clear e1 e2 hG)
  have hSp := sspills HA5.out
  rw [ka3_sp] at hSp
  change Calls _ _ _ _ (fun r w' => r = .returned (.int .i64 2) ∧ w' = w5) at hSp
  have hst : (str [97, 98]).toList = [97, 98] := str_toList _
  have hNm := snames HA5.out (by decide) ka3_f ka3_near
  go_wp2_with (first
    | (go_at_call 10; refine Calls.mono hSp ?_; rintro r w6 ⟨rfl, rfl⟩)
    | (go_at_call 11; refine Calls.mono hNm ?_; rintro r w7 ⟨ao, l, cp, rfl, hl, e1⟩; have E1 : Hid _ := e1; clear e1))
  go_ret
  rw [HP.out]
  have e1 : Below p w w1 := by rw [← HP.out]; exact HB1.out
  have e2 : Below p w1 w6 := (HB2.out.mono HQ.out).trans (((HF3.out.below HS2.out).trans (HF4.out.below HS3.out)).trans (HF5.out.below HS4.out))
  exact ⟨rfl, (e1.trans e2).trans (E1.out.mono (Nat.le_trans HS4.out HF5.out.size))⟩
end Go.Proofs.YtjemnkijoiehmaaDoor
end

section
/- Acts on a store, on plain data and in memory. -/
namespace Go.Proofs.YtjemnkijoiehmaaDoor
open Go.RowKit
/-- An act on plain data. -/
structure Sct where
  k : Int
  n : Int
  s : Bs
def SctS (w : World) (b off : Nat) (Y : List Sct) : Prop := ∀ j (h : j < Y.length), w.cell? ⟨b, off + j * 3, none⟩ = some (.int .i64 Y[j].k) ∧ w.cell? ⟨b, off + j * 3 + 1, none⟩ = some (.int .i64 Y[j].n) ∧ w.cell? ⟨b, off + j * 3 + 2, none⟩ = some (.string (str Y[j].s)) ∧ I6 Y[j].n ∧ Y[j].s.length ≤ 140737488351232
def sumS (Y : List Sct) : Nat := (Y.map (fun y => y.s.length)).sum
theorem sumS_take (Y : List Sct) (k : Nat) (h : k < Y.length) : sumS (Y.take (k + 1)) = sumS (Y.take k) + Y[k].s.length := by
  rw [List.take_succ_eq_append_getElem h]
  unfold sumS
  rw [List.map_append, List.sum_append]
  simp
theorem sumS_le (Y : List Sct) (k : Nat) : sumS (Y.take k) ≤ sumS Y := by
  have h := congrArg sumS (List.take_append_drop k Y)
  unfold sumS at h ⊢
  rw [List.map_append, List.sum_append] at h
  omega
end Go.Proofs.YtjemnkijoiehmaaDoor
end
