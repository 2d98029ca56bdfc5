import Derived.Test.YtnhjflebaeokeaaGreatDkFail2M
import Derived.Test.YtnhjflebaeokeaaGreatReader2M
import Derived.Laws.ResultCell
import Derived.Test.YtnhjflebaeokeaaGreatFrameWM
section
/- Crash and Up of a disk; what awake of layer 11 returns: true. -/
namespace Go.Proofs.YtnhjflebaeokeaaGreat
open Go.RowKit Go.Maps
variable {Xm : Nat → Prop}
attribute [local go_sem] Oper.semAt_some
section
variable {w : World} {B p : Nat} {A : Dk} {mn ms : Option Nat} {lv : Value}
theorem fail_any {M : Nat} (h : DA Xm w B p A mn ms lv) (hB : B ≤ w.heap.size) (hbd : BdA A M) (keep tn : Int) : Calls Tryz.prog 41 #[.pointer (some ⟨p, 0, none⟩), .int .i64 keep, .int .i64 tn] w fun r w' => r = .returned (.tuple #[]) ∧ DkAt Xm w' B p (A.fail keep tn) ∧ FrD Xm B w w' := by
  rcases h.two with ⟨rfl, rfl, _⟩ | ⟨a, b, rfl, rfl, _⟩
  · exact fail_nil h keep tn
  · by_cases hl : A.loose = []
    · exact fail_empty h hB hl keep tn
    · exact fail_some h hB hbd (List.length_pos_iff.2 hl) keep tn
theorem crash_any {M : Nat} (h : DA Xm w B p A mn ms lv) (hB : B ≤ w.heap.size) (hbd : BdA A M) (hd : A.dead = false) (keep tn : Int) : Calls Tryz.prog 15 #[.pointer (some ⟨p, 0, none⟩), .int .i64 keep, .int .i64 tn] w fun r w' => r = .returned (.tuple #[]) ∧ DkAt Xm w' B p (A.fail keep tn) ∧ FrD Xm B w w' := by
  have hD := dead_any h
  rw [hd] at hD
  have HF : Hid (Calls Tryz.prog 41 #[.pointer (some ⟨p, 0, none⟩), .int .i64 keep, .int .i64 tn] w fun r w' => r = .returned (.tuple #[]) ∧ DkAt Xm w' B p (A.fail keep tn) ∧ FrD Xm B w w') := fail_any h hB hbd keep tn
  clear h hB hbd hd
  go_enter Tryz.func15, Tryz.ntmps15
  go_wp2_with (first
    | (go_at_call 40; refine hD.mono ?_; rintro r w ⟨rfl, rfl⟩)
    | (go_at_call 41; refine Calls.mono HF.out ?_; rintro r w2 ⟨rfl, hD2, hF2⟩; have HD2 : Hid _ := hD2; have HF2 : Hid _ := hF2; clear hD2 hF2))
  go_end0
  exact ⟨rfl, HD2.out, HF2.out⟩
theorem up_dead (h : DA Xm w B p A mn ms lv) (hd : A.dead = true) : Calls Tryz.prog 16 #[.pointer (some ⟨p, 0, none⟩)] w fun r w' => r = .returned (.bool true) ∧ DkAt Xm w' B p { A with dead := false } ∧ FrD Xm B w w' := by
  obtain ⟨_, _, _, _, _, c5⟩ := h.cells
  have f5 := h.free 5
  rw [hd] at c5
  have fs : Fr w (w.setCell ⟨p, 5, none⟩ (.bool false)) (fun k => k = p) := Fr.setCell (S := fun k => k = p) _ ⟨p, 5, none⟩ _ rfl
  have HD : Hid (DA Xm (w.setCell ⟨p, 5, none⟩ (.bool false)) B p { A with dead := false } mn ms lv) :=
    ⟨blk_set (i := 5) (.bool false) h.blk, h.now.kept fs (fun k e s => h.pmap.1 (by rw [e, s])), h.sure.kept fs (fun k e s => h.pmap.2 (by rw [e, s])), h.two, row_keep h.row fs (fun k e s => h.prow (by rw [e, s])), h.ok, h.hp, h.hn, h.hs, h.nx, fun k hk => Nat.lt_of_lt_of_le (h.lx k hk) fs.size⟩
  have HF : Hid (FrD Xm B w (w.setCell ⟨p, 5, none⟩ (.bool false))) := h.frP fs (fun _ e => e)
  clear h fs hd
  go_enter Tryz.func16, Tryz.ntmps16
  go_wp2
  go_ret
  exact ⟨rfl, ⟨_, _, _, HD.out⟩, HF.out⟩
end
def dk0 : Dk := ⟨[], [], 0, false, .slice none 0 0⟩
end Go.Proofs.YtnhjflebaeokeaaGreat
end

section
/- Sync: what is loose becomes sure. -/
namespace Go.Proofs.YtnhjflebaeokeaaGreat
open Go.RowKit Go.Maps
variable {Xm : Nat → Prop}
attribute [local go_sem] Oper.semAt_some
/-- A file is made sure as it is now. -/
def secF (x : Bs) (now s : Fl) : Fl := if (getF x now).isSome then putF x (ofF x now) s else delF x s
theorem sort_secF {s : Fl} (x : Bs) (now : Fl) (h : SortF s) : SortF (secF x now s) := by
  unfold secF
  split
  · exact sort_putF _ _ h
  · exact sort_delF _ h
theorem len_secF (x : Bs) (now s : Fl) : (secF x now s).length ≤ s.length + 1 := by
  unfold secF
  split
  · exact len_putF _ _ _
  · exact Nat.le_trans (len_delF _ _) (Nat.le_succ _)
theorem getF_secF {s : Fl} (h : SortF s) (x y : Bs) (now : Fl) : getF y (secF x now s) = if y = x then getF y now else getF y s := by
  unfold secF
  cases e : (getF x now).isSome with
  | true =>
    obtain ⟨v, hv⟩ := Option.isSome_iff_exists.1 e
    rw [if_pos rfl, getF_put h]
    by_cases e2 : y = x
    · subst e2
      rw [if_pos rfl, if_pos rfl, hv]
      unfold ofF
      rw [hv]
      rfl
    · rw [if_neg e2, if_neg e2]
  | false =>
    rw [if_neg (by decide), getF_del h]
    by_cases e2 : y = x
    · subst e2
      rw [if_pos rfl, if_pos rfl]
      exact (by cases hh : getF y now with
        | none => rfl
        | some v => rw [hh] at e; cases e)
    · rw [if_neg e2, if_neg e2]
def secS (now : Fl) (s : Fl) (c : Chg) : Fl := if c.k = 2 then secF c.to now (secF c.nm now s) else secF c.nm now s
theorem sort_secS {s : Fl} (now : Fl) (c : Chg) (h : SortF s) : SortF (secS now s c) := by
  unfold secS
  split
  · exact sort_secF _ _ (sort_secF _ _ h)
  · exact sort_secF _ _ h
def touch (y : Bs) (c : Chg) : Prop := y = c.nm ∨ (c.k = 2 ∧ y = c.to)
theorem getF_secS {s : Fl} (h : SortF s) (c : Chg) (y : Bs) (now : Fl) : (touch y c → getF y (secS now s c) = getF y now) ∧ (¬ touch y c → getF y (secS now s c) = getF y s) := by
  unfold secS touch
  by_cases e : c.k = 2
  · rw [if_pos e, getF_secF (sort_secF _ _ h), getF_secF h]
    by_cases e1 : y = c.to
    · rw [if_pos e1]
      exact ⟨fun _ => rfl, fun hn => absurd (.inr ⟨e, e1⟩) hn⟩
    · rw [if_neg e1]
      by_cases e2 : y = c.nm
      · rw [if_pos e2]
        exact ⟨fun _ => rfl, fun hn => absurd (.inl e2) hn⟩
      · rw [if_neg e2]
        exact ⟨fun ht => (by rcases ht with ht | ht; exact absurd ht e2; exact absurd ht.2 e1), fun _ => rfl⟩
  · rw [if_neg e, getF_secF h]
    by_cases e2 : y = c.nm
    · rw [if_pos e2]
      exact ⟨fun _ => rfl, fun hn => absurd (.inl e2) hn⟩
    · rw [if_neg e2]
      exact ⟨fun ht => (by rcases ht with ht | ht; exact absurd ht e2; exact absurd ht.1 e), fun _ => rfl⟩
theorem sort_secL {s : Fl} (now : Fl) (L : List Chg) (h : SortF s) : SortF (L.foldl (secS now) s) := by
  induction L generalizing s with
  | nil => exact h
  | cons c r ih => exact ih (sort_secS now c h)
theorem getF_secL (now : Fl) (y : Bs) (L : List Chg) {s : Fl} (h : SortF s) : ((∃ c ∈ L, touch y c) → getF y (L.foldl (secS now) s) = getF y now) ∧ ((∀ c ∈ L, ¬ touch y c) → getF y (L.foldl (secS now) s) = getF y s) := by
  induction L generalizing s with
  | nil => exact ⟨fun ⟨c, hc, _⟩ => (by cases hc), fun _ => rfl⟩
  | cons c r ih =>
    obtain ⟨i1, i2⟩ := ih (sort_secS now c h)
    obtain ⟨g1, g2⟩ := getF_secS h c y now
    refine ⟨fun hh => ?_, fun hh => ?_⟩
    · by_cases hr : ∃ d ∈ r, touch y d
      · exact i1 hr
      · have hn : ∀ d ∈ r, ¬ touch y d := fun d hd ht => hr ⟨d, hd, ht⟩
        obtain ⟨d, hd, ht⟩ := hh
        rcases List.mem_cons.1 hd with rfl | hd
        · exact (i2 hn).trans (g1 ht)
        · exact absurd ht (hn d hd)
    · exact (i2 (fun d hd => hh d (List.mem_cons_of_mem _ hd))).trans (g2 (hh c List.mem_cons_self))
theorem getF_doF {l : Fl} (h : SortF l) (c : Chg) (y : Bs) (hn : ¬ touch y c) : getF y (doF l c) = getF y l := by
  unfold touch at hn
  have h1 : ¬ y = c.nm := fun e => hn (.inl e)
  unfold doF
  split
  · rw [getF_put h, if_neg h1]
  · split
    · rw [getF_put h, if_neg h1]
    · split
      · rename_i e
        have h2 : ¬ y = c.to := fun e2 => hn (.inr ⟨e, e2⟩)
        rw [getF_put (sort_delF _ h), if_neg h2, getF_del h, if_neg h1]
      · rw [getF_del h, if_neg h1]
theorem getF_doneF (L : List Chg) {l : Fl} (h : SortF l) (y : Bs) (hn : ∀ c ∈ L, ¬ touch y c) : getF y (doneF l L) = getF y l := by
  induction L generalizing l with
  | nil => rfl
  | cons c r ih => exact (ih (sort_doF c h) (fun d hd => hn d (List.mem_cons_of_mem _ hd))).trans (getF_doF h c y (hn c List.mem_cons_self))
theorem sec_all {s : Fl} (h : SortF s) (L : List Chg) : L.foldl (secS (doneF s L)) s = doneF s L := by
  refine sortF_ext (sort_secL _ _ h) (sort_doneF _ h) fun y => ?_
  obtain ⟨g1, g2⟩ := getF_secL (doneF s L) y L h
  by_cases hh : ∃ c ∈ L, touch y c
  · exact g1 hh
  · have hn : ∀ c ∈ L, ¬ touch y c := fun c hc ht => hh ⟨c, hc, ht⟩
    rw [g2 hn, getF_doneF L h y hn]
theorem len_secS (now s : Fl) (c : Chg) : (secS now s c).length ≤ s.length + 2 := by
  unfold secS
  split
  · have h1 := len_secF c.nm now s
    have h2 := len_secF c.to now (secF c.nm now s)
    omega
  · have h1 := len_secF c.nm now s
    omega
theorem len_secL (now : Fl) (L : List Chg) (s : Fl) : (L.foldl (secS now) s).length ≤ s.length + 2 * L.length := by
  induction L generalizing s with
  | nil => exact Nat.le_refl _
  | cons c r ih =>
    have h1 := ih (secS now s c)
    have h2 := len_secS now s c
    simp only [List.foldl_cons, List.length_cons]
    omega
section
variable {w : World} {p a b : Nat} {now s : Fl} {x : Bs}
set_option linter.unusedSimpArgs false in
set_option maxRecDepth 100000 in
set_option maxHeartbeats 4000000 in
theorem secure_any (c0 : w.cell? ⟨p, 0, none⟩ = some (.map (some a))) (c1 : w.cell? ⟨p, 1, none⟩ = some (.map (some b))) (ha : FMap w a now) (hb : FMap w b s) (hx : x.length ≤ maxLen) (hl : s.length < maxLen) : Calls Tryz.prog 60 #[.pointer (some ⟨p, 0, none⟩), .string (str x)] w fun r w' => r = .returned (.tuple #[]) ∧ FMap w' b (secF x now s) ∧ Fr w w' (fun k => k = b) := by
  have hlk := ha.lookOk hx
  have HSec : Hid (secF x now s = if (getF x now).isSome then putF x (ofF x now) s else delF x s) := rfl
  cases hs : (getF x now).isSome with
  | false =>
    rw [hs] at hlk HSec
    generalize ofF x now = vv at hlk HSec
    have b1 := one_newD w (.cells #[.string (str vv)] 132)
    obtain ⟨w2, hrun, hP, hF2⟩ := (hb.new b1).del hx 0
    have d1 := (b1.cell (p := ⟨p, 1, none⟩) (lt_cellD c1)).trans c1
    have HR : Hid (FMap w2 b (secF x now s) ∧ Fr w w2 (fun k => k = b)) := ⟨by rw [HSec.out]; exact hP, (Fr.ofBelow b1 _).trans hF2 (fun _ _ h => h)⟩
    obtain ⟨W, hW⟩ : ∃ W, w.alloc (.cells #[.string (str vv)] 132) = W := ⟨_, rfl⟩
    rw [hW] at hrun d1
    clear hP hF2 ha hb b1 hs HSec
    go_enter Tryz.func60, Tryz.ntmps60
    go_wp2
    refine bodyPost_ret (results_none rfl _ _ _) rfl ?_
    exact ⟨rfl, HR.out⟩
  | true =>
    rw [hs] at hlk HSec
    generalize ofF x now = vv at hlk HSec
    have b1 := one_newD w (.cells #[.string (str vv)] 132)
    have hQ := heap_alloc_new w (.cells #[.string (str vv)] 132)
    obtain ⟨W, hW⟩ : ∃ W, w.alloc (.cells #[.string (str vv)] 132) = W := ⟨_, rfl⟩
    have bd : Below w.heap.size w W.drew := by rw [← hW]; exact b1.drew
    have hQd : W.drew.heap[w.heap.size]? = some (.cells #[.string (str vv)] 132 (0, 0)) := by rw [← hW]; exact hQ
    obtain ⟨Wd, hWd⟩ : ∃ Wd, W.drew = Wd := ⟨_, rfl⟩
    rw [hWd] at bd hQd
    obtain ⟨w2, hrun, hP, hF2⟩ := (hb.new bd).put hl hx vv
    have y1 := (bd.cell (p := ⟨p, 1, none⟩) (lt_cellD c1)).trans c1
    have HR : Hid (FMap w2 b (secF x now s) ∧ Fr w w2 (fun k => k = b)) := ⟨by rw [HSec.out]; exact hP, (Fr.ofBelow bd _).trans hF2 (fun _ _ h => h)⟩
    clear hP hF2 ha hb b1 hs HSec bd hQ
    go_enter Tryz.func60, Tryz.ntmps60
    go_upto_region 3 with (fail)
    obtain ⟨q, hq⟩ : ∃ q, w.heap.size = q := ⟨_, rfl⟩
    rw [hq] at hQd ⊢
    have z0 : Wd.cell? ⟨q, 0, none⟩ = some (.string (str vv)) := (cell_blk hQd).trans rfl
    clear hq hQd
    refine wp_calmD ?_
    refine wp_region_L [6] (fun w' : World => w'.cell? ⟨p, 1, none⟩ = some (.map (some b)) ∧ w'.cell? ⟨q, 0, none⟩ = some (.string (str vv))) (by kernel_rfl) ?_
    rw [hWd]
    clear hWd hW
    have hS : (fun w' : World => w'.cell? ⟨p, 1, none⟩ = some (.map (some b)) ∧ w'.cell? ⟨q, 0, none⟩ = some (.string (str vv))) Wd := ⟨y1, z0⟩
    refine wpAnyL_take (i := 0) 22 (v := .pointer (some ⟨p, 0, none⟩)) rfl rfl (by kernel_rfl) (by kernel_rfl) (by kernel_rfl) (by kernel_rfl) (by kernel_rfl) (by kernel_rfl) (fun _ _ _ h => h) hS (by rfl) (by intro w' hSw; obtain ⟨y1, z0⟩ := hSw; go_simp <;> with_reducible rfl) ?_
    simp only [Act.put, List.setIfInBounds_toArray, List.set_cons_zero, List.set_cons_succ]
    refine wpAnyL_take (i := 1) 23 (v := .pointer (some ⟨p, 0, none⟩)) rfl rfl (by kernel_rfl) (by kernel_rfl) (by kernel_rfl) (by kernel_rfl) (by kernel_rfl) (by kernel_rfl) (fun _ _ _ h => h) hS (by rfl) (by intro w' hSw; obtain ⟨y1, z0⟩ := hSw; go_simp <;> with_reducible rfl) ?_
    simp only [Act.put, List.setIfInBounds_toArray, List.set_cons_zero, List.set_cons_succ]
    refine wpAnyL_take (i := 2) 24 (v := .pointer (some ⟨p, 1, none⟩)) rfl rfl (by kernel_rfl) (by kernel_rfl) (by kernel_rfl) (by kernel_rfl) (by kernel_rfl) (by kernel_rfl) (fun _ _ _ h => h) hS (by rfl) (by intro w' hSw; obtain ⟨y1, z0⟩ := hSw; go_simp <;> with_reducible rfl) ?_
    simp only [Act.put, List.setIfInBounds_toArray, List.set_cons_zero, List.set_cons_succ]
    refine wpAnyL_take (i := 3) 25 (v := .map (some b)) rfl rfl (by kernel_rfl) (by kernel_rfl) (by kernel_rfl) (by kernel_rfl) (by kernel_rfl) (by kernel_rfl) (fun _ _ _ h => h) hS (by rfl) (by intro w' hSw; obtain ⟨y1, z0⟩ := hSw; go_simp <;> with_reducible rfl) ?_
    simp only [Act.put, List.setIfInBounds_toArray, List.set_cons_zero, List.set_cons_succ]
    refine wpAnyL_take (i := 4) 26 (v := .string (str x)) rfl rfl (by kernel_rfl) (by kernel_rfl) (by kernel_rfl) (by kernel_rfl) (by kernel_rfl) (by kernel_rfl) (fun _ _ _ h => h) hS (by rfl) (by intro w' hSw; obtain ⟨y1, z0⟩ := hSw; go_simp <;> with_reducible rfl) ?_
    simp only [Act.put, List.setIfInBounds_toArray, List.set_cons_zero, List.set_cons_succ]
    refine wpAnyL_take (i := 5) 27 (v := .agg #[.string (str vv)]) rfl rfl (by kernel_rfl) (by kernel_rfl) (by kernel_rfl) (by kernel_rfl) (by kernel_rfl) (by kernel_rfl) (fun _ _ _ h => h) hS (by rfl) (by intro w' hSw; obtain ⟨y1, z0⟩ := hSw; go_simp <;> with_reducible rfl) ?_
    simp only [Act.put, List.setIfInBounds_toArray, List.set_cons_zero, List.set_cons_succ]
    refine wpAnyL_one (i := 6) (by kernel_rfl) rfl (fun Ka hKa => ?_)
    go_simp
    refine hKa.out _ _ (fun h => absurd h (Bool.eq_false_iff.1 (by kernel_rfl))) ?_
    clear hKa Ka
    refine wpAnyL_done (by kernel_rfl) ?_ _
    go_end0
    exact ⟨rfl, HR.out⟩
/-- Sync of a disk that has power. -/
theorem sync_end {A : Dk} {B : Nat} {lv : Value} {V : World} (h : DA Xm w B p A (some a) (some b) lv) (f : Fr w V (fun k => k = b)) (hs : FMap V b A.now) (hab : a ≠ b) : DA Xm (V.setCell ⟨p, 2, none⟩ (.slice none 0 0)) B p ⟨A.now, [], A.n, A.dead, A.pv⟩ (some a) (some b) (.slice none 0 0) ∧ FrD Xm B w (V.setCell ⟨p, 2, none⟩ (.slice none 0 0)) := by
  have hpa : p ≠ a := fun e => h.pmap.1 (by rw [e])
  have hpb : p ≠ b := fun e => h.pmap.2 (by rw [e])
  have p1 := (f.block p h.plt hpb).trans h.blk
  have p2 := blk_set (i := 2) (.slice none 0 0) p1
  have fs : Fr V (V.setCell ⟨p, 2, none⟩ (.slice none 0 0)) (fun k => k = p) := Fr.setCell (S := fun k => k = p) V ⟨p, 2, none⟩ _ rfl
  have ha : FMap w a A.now := h.now
  have ha1 := ha.same (f.block a ha.lt hab)
  refine ⟨⟨p2, ?_, ?_, .inr ⟨a, b, rfl, rfl, hab⟩, ⟨rfl, .inl ⟨rfl, rfl⟩⟩, fun c hc => (by cases hc), h.hp, h.hn, h.hs, fun k e => (by
    rcases e with e | e | e | e
    · exact h.nx k (.inl e)
    · exact h.nx k (.inr (.inl e))
    · exact h.nx k (.inr (.inr (.inl e)))
    · cases e), fun k hk => Nat.lt_of_lt_of_le (h.lx k hk) (Nat.le_trans f.size fs.size)⟩, ?_⟩
  · exact ha1.same (fs.block a ha1.lt (fun e => hpa e.symm))
  · exact hs.same (fs.block b hs.lt (fun e => hpb e.symm))
  · have tagB : DkB Xm w b := ⟨.inl (map_tag h.sure rfl), h.nx b (.inr (.inr (.inl rfl)))⟩
    refine ⟨fs.os.trans f.os, fs.tape.trans f.tape, fs.output.trans f.output, Nat.le_trans f.size fs.size, fun k hk hn => ?_⟩
    have kb : k ≠ b := fun e => hn ⟨by rw [e]; exact h.hs b rfl, by rw [e]; exact tagB⟩
    have kp : k ≠ p := fun e => hn ⟨by rw [e]; exact h.hp, by rw [e]; exact ⟨.inr ⟨_, _, _, h.blk, .inl rfl⟩, h.nx p (.inl rfl)⟩⟩
    have := f.size
    exact (fs.block k (by omega) kp).trans (f.block k hk kb)
def Dk.sync (A : Dk) : Dk := ⟨A.now, [], A.n, A.dead, A.pv⟩
set_option maxRecDepth 100000 in
set_option maxHeartbeats 400000 in
theorem sync_nil {A : Dk} {B : Nat} {lv : Value} (h : DA Xm w B p A none none lv) (hd : A.dead = false) : Calls Tryz.prog 34 #[.pointer (some ⟨p, 0, none⟩)] w fun r w' => r = .returned (.int .i64 0) ∧ DkAt Xm w' B p A.sync ∧ FrD Xm B w w' := by
  have hloose : A.loose = [] := by
    rcases h.two with ⟨_, _, e⟩ | ⟨a', b', e, _⟩
    · exact e
    · cases e
  have hnow : A.now = [] := h.now
  have HE : Hid (A.sync = ⟨[], [], A.n, A.dead, A.pv⟩) := by show _ = _; unfold Dk.sync; rw [hnow]
  have hDe := dead_any h
  rw [hd] at hDe
  have fs : Fr w (w.setCell ⟨p, 2, none⟩ (.slice none 0 0)) (fun k => k = p) := Fr.setCell (S := fun k => k = p) w ⟨p, 2, none⟩ _ rfl
  have HD : Hid (DA Xm (w.setCell ⟨p, 2, none⟩ (.slice none 0 0)) B p ⟨[], [], A.n, A.dead, A.pv⟩ none none (.slice none 0 0)) := ⟨blk_set (i := 2) (.slice none 0 0) h.blk, rfl, rfl, .inl ⟨rfl, rfl, rfl⟩, ⟨rfl, .inl ⟨rfl, rfl⟩⟩, fun c hc => (by cases hc), h.hp, fun k e => (by cases e), fun k e => (by cases e), fun k e => (by
    rcases e with e | e | e | e
    · exact h.nx k (.inl e)
    · cases e
    · cases e
    · cases e), fun k hk => Nat.lt_of_lt_of_le (h.lx k hk) fs.size⟩
  have HF : Hid (FrD Xm B w (w.setCell ⟨p, 2, none⟩ (.slice none 0 0))) := h.frP fs (fun _ e => e)
  obtain ⟨c0, c1, c2, c3, c4, c5⟩ := h.cells
  have f2 := h.free 2
  obtain ⟨ao, cp, rfl⟩ := h.shape
  have hln : A.loose.length = 0 := by rw [hloose]; rfl
  rw [hln] at c2
  clear h fs hloose hnow hd hln
  go_enter Tryz.func34, Tryz.ntmps34
  go_wp2_with (go_at_call 40; refine hDe.mono ?_; rintro r w ⟨rfl, rfl⟩)
  go_loop [4, 12] (fun _ i => i = .int .i64 0) (fun _ _ => 0)
  case atStart => rfl
  case round =>
    obtain rfl := hrel
    go_wp2
    go_ret
    rw [HE.out]
    exact ⟨rfl, ⟨_, _, _, HD.out⟩, HF.out⟩
theorem secL_take (now s : Fl) (L : List Chg) (k : Nat) (h : k < L.length) : (L.take (k + 1)).foldl (secS now) s = secS now ((L.take k).foldl (secS now) s) L[k] := by
  rw [List.take_succ_eq_append_getElem h, List.foldl_append]
  rfl
set_option maxRecDepth 100000 in
set_option maxHeartbeats 1600000 in
theorem sync_some {A : Dk} {B : Nat} {lv : Value} (h : DA Xm w B p A (some a) (some b) lv) (hd : A.dead = false) (hlen : A.sure.length + A.loose.length ≤ 1000000) : Calls Tryz.prog 34 #[.pointer (some ⟨p, 0, none⟩)] w fun r w' => r = .returned (.int .i64 0) ∧ DkAt Xm w' B p A.sync ∧ FrD Xm B w w' := by
  have hab : a ≠ b := by
    rcases h.two with ⟨e, _⟩ | ⟨a', b', e1, e2, hne⟩
    · cases e
    · cases e1; cases e2; exact hne
  have hpb : p ≠ b := fun e => h.pmap.2 (by rw [e])
  have hDe := dead_any h
  rw [hd] at hDe
  have hfa : FMap w a A.now := h.now
  have hfb : FMap w b A.sure := h.sure
  obtain ⟨c0, c1, c2, c3, c4, c5⟩ := h.cells
  have f2 := h.free 2
  obtain ⟨ao, cp, rfl⟩ := h.shape
  have HEnd : Hid (∀ V, Fr w V (fun k => k = b) → FMap V b A.now → DA Xm (V.setCell ⟨p, 2, none⟩ (.slice none 0 0)) B p A.sync (some a) (some b) (.slice none 0 0) ∧ FrD Xm B w (V.setCell ⟨p, 2, none⟩ (.slice none 0 0))) := fun V f hs => sync_end h f hs hab
  have HNow : Hid (A.loose.foldl (secS A.now) A.sure = A.now) := sec_all hfb.1 A.loose
  have HLen : Hid (A.sure.length + A.loose.length ≤ 1000000) := hlen
  have HRow : Hid (0 < A.loose.length → ∃ g, ao = some ⟨g, 0, none⟩ ∧ g ≠ b ∧ ∀ j (hj : j < A.loose.length), w.cell? ⟨g, j * 4, none⟩ = some (.int .i64 A.loose[j].k) ∧ w.cell? ⟨g, j * 4 + 1, none⟩ = some (.string (str A.loose[j].nm)) ∧ w.cell? ⟨g, j * 4 + 2, none⟩ = some (.string (str A.loose[j].to)) ∧ w.cell? ⟨g, j * 4 + 3, none⟩ = some (.string (str A.loose[j].s))) := fun hL => by
    obtain ⟨g, e, _, _, hc⟩ := chrow_at h.row hL
    subst e
    exact ⟨g, rfl, fun e => (h.mrow (k := g) rfl).2 (by rw [e]), hc⟩
  have HOk : Hid (∀ j (hj : j < A.loose.length), A.loose[j].ok) := fun j hj => h.ok _ (List.getElem_mem hj)
  have HA : Hid (FMap w a A.now) := hfa
  have HB0 : Hid (FMap w b A.sure) := hfb
  have HP : Hid (p ≠ b ∧ a ≠ b) := ⟨hpb, hab⟩
  clear h hfa hfb hlen hd hab
  obtain ⟨L, hLe⟩ : ∃ L, A.loose = L := ⟨_, rfl⟩
  rw [hLe] at c2 HNow HRow HOk HLen
  obtain ⟨n0, hn0⟩ : ∃ n0, L.length = n0 := ⟨_, rfl⟩
  have HN0 : Hid (L.length = n0) := hn0
  rw [hn0] at c2
  have hn6 : n0 ≤ 1000000 := by have := HLen.out; omega
  clear hn0 hLe
  go_enter Tryz.func34, Tryz.ntmps34
  go_wp2_with (go_at_call 40; refine hDe.mono ?_; rintro r w ⟨rfl, rfl⟩)
  go_loopw [4, 12] (fun _ i wr => ∃ k : Nat, k ≤ n0 ∧ i = .int .i64 k ∧ FMap wr b ((L.take k).foldl (secS A.now) A.sure) ∧ Fr w wr (fun j => j = b)) (fun _ i _ => n0 - (intOf i).toNat)
  case atStart => exact ⟨0, Nat.zero_le _, rfl, HB0.out, Fr.refl _ _⟩
  case round =>
    obtain ⟨k, hkK, rfl, hm, hf⟩ := hrel
    have HM : Hid (FMap wr b ((L.take k).foldl (secS A.now) A.sure)) := hm
    have HF : Hid (Fr w wr (fun j => j = b)) := hf
    clear hm hf
    by_cases hlt : k < n0
    · have HLt : Hid (k < n0) := hlt
      have hkl : k < L.length := by have := HN0.out; omega
      obtain ⟨g, rfl, hgb, hcs⟩ := HRow.out (by omega)
      obtain ⟨z0, z1, z2, z3⟩ := hcs k hkl
      replace z0 := fr_cellD HF.out hgb z0
      replace z1 := fr_cellD HF.out hgb z1
      replace z2 := fr_cellD HF.out hgb z2
      replace z3 := fr_cellD HF.out hgb z3
      have HY : Hid ((L.take (k + 1)).foldl (secS A.now) A.sure = secS A.now ((L.take k).foldl (secS A.now) A.sure) L[k]) := secL_take _ _ _ _ hkl
      have HOy : Hid L[k].ok := HOk.out k hkl
      have HSl : Hid (((L.take k).foldl (secS A.now) A.sure).length + 1 < maxLen) := by
        have h1 := len_secL A.now (L.take k) A.sure
        have h2 := HLen.out
        rw [List.length_take] at h1
        show _ < maxLen
        unfold maxLen
        omega
      generalize L[k] = y at z0 z1 z2 z3 HY HOy
      clear hkl hcs
      have h32 : (32 : Nat) ≤ maxLen := by decide
      have HS1 : Hid (∀ V, Below wr.heap.size wr V → Calls Tryz.prog 60 #[.pointer (some ⟨p, 0, none⟩), .string (str y.nm)] V fun r w' => r = .returned (.tuple #[]) ∧ FMap w' b (secF y.nm A.now ((L.take k).foldl (secS A.now) A.sure)) ∧ Fr V w' (fun k => k = b)) := fun V hV => by
        have fV : Fr w V (fun j => j = b) := HF.out.trans (Fr.ofBelow hV _) (fun _ _ h => h)
        exact secure_any (fr_cellD fV HP.out.1 c0) (fr_cellD fV HP.out.1 c1) (HA.out.same (fV.block a HA.out.lt HP.out.2)) (HM.out.new hV) (Nat.le_trans HOy.out.2.1 h32) (by have := HSl.out; omega)
      have HS2 : Hid (∀ V, Fr w V (fun j => j = b) → FMap V b (secF y.nm A.now ((L.take k).foldl (secS A.now) A.sure)) → Calls Tryz.prog 60 #[.pointer (some ⟨p, 0, none⟩), .string (str y.to)] V fun r w' => r = .returned (.tuple #[]) ∧ FMap w' b (secF y.to A.now (secF y.nm A.now ((L.take k).foldl (secS A.now) A.sure))) ∧ Fr V w' (fun k => k = b)) := fun V fV hm => by
        exact secure_any (fr_cellD fV HP.out.1 c0) (fr_cellD fV HP.out.1 c1) (HA.out.same (fV.block a HA.out.lt HP.out.2)) hm (Nat.le_trans HOy.out.2.2 h32) (by have := HSl.out; have := len_secF y.nm A.now ((L.take k).foldl (secS A.now) A.sure); omega)
      clear h32
      go_upto_region 6 with (fail)
      generalize hV : World.alloc _ _ = V
      have hQ : V.heap[wr.heap.size]? = some (.cells #[.int .i64 y.k, .string (str y.nm), .string (str y.to), .string (str y.s)] 122 (0, 0)) := by rw [← hV]; exact heap_alloc_new wr _
      have bV : Below wr.heap.size wr V := by rw [← hV]; exact one_newD wr _
      obtain ⟨q, hq⟩ : ∃ q, wr.heap.size = q := ⟨_, rfl⟩
      have HQ : Hid (V.heap[q]? = some (.cells #[.int .i64 y.k, .string (str y.nm), .string (str y.to), .string (str y.s)] 122 (0, 0))) := by rw [← hq]; exact hQ
      have HFV : Hid (Fr w V (fun j => j = b)) := HF.out.trans (Fr.ofBelow bV _) (fun _ _ h => h)
      have hS1 := HS1.out V bV
      have HQB : Hid (q ≠ b) := fun e => by have := HM.out.lt; omega
      rw [hq]
      obtain ⟨x0, x1, x2, x3⟩ := box4 HQ.out
      clear hQ bV hV hq z0 z1 z2 z3 HS1
      go_upto_region 7 with (go_at_call 60; refine hS1.mono ?_; rintro r w7 ⟨rfl, m7, f7⟩; have HM7 : Hid (FMap w7 b (secF y.nm A.now ((L.take k).foldl (secS A.now) A.sure))) := m7; have HF7 : Hid (Fr V w7 (fun k => k = b)) := f7; clear m7 f7)
      have q7 := (HF7.out.block q (lt_blk HQ.out) HQB.out).trans HQ.out
      obtain ⟨v0, v1, v2, v3⟩ := box4 q7
      have HF8 : Hid (Fr w w7 (fun j => j = b)) := HFV.out.trans HF7.out (fun _ _ h => h)
      clear q7 x0 x1 x2 x3
      have hk6 : k ≤ 1000000 := by have := HLt.out; omega
      by_cases hk2 : y.k = 2
      · have hS2 := HS2.out w7 HF8.out HM7.out
        have HYy : Hid ((L.take (k + 1)).foldl (secS A.now) A.sure = secF y.to A.now (secF y.nm A.now ((L.take k).foldl (secS A.now) A.sure))) := by
          show _ = _
          rw [HY.out]
          unfold secS
          rw [if_pos hk2]
        have hkb : (y.k == 2) = true := by simpa using hk2
        clear hk2
        go_wp2_with (go_at_call 60; refine hS2.mono ?_; rintro r w9 ⟨rfl, m9, f9⟩; have HM9 : Hid _ := m9; have HF9 : Hid (Fr w7 w9 (fun k => k = b)) := f9; clear m9 f9)
        go_roundw
        case rel => exact ⟨k + 1, HLt.out, by go_num, by rw [HYy.out]; exact HM9.out, HF8.out.trans HF9.out (fun _ _ h => h)⟩
        case measure => have := HLt.out; simp [intOf]; omega
      · have HYy : Hid ((L.take (k + 1)).foldl (secS A.now) A.sure = secF y.nm A.now ((L.take k).foldl (secS A.now) A.sure)) := by
          show _ = _
          rw [HY.out]
          unfold secS
          rw [if_neg hk2]
        have hkb : (y.k == 2) = false := by simpa using hk2
        clear hk2
        go_wp2
        go_roundw
        case rel => exact ⟨k + 1, HLt.out, by go_num, by rw [HYy.out]; exact HM7.out, HF8.out⟩
        case measure => have := HLt.out; simp [intOf]; omega
    · obtain rfl : k = n0 := by omega
      have hm := HM.out
      rw [List.take_of_length_le (by have := HN0.out; omega), HNow.out] at hm
      have HE := HEnd.out wr HF.out hm
      have HEE : Hid _ := HE
      have e2 := fr_cellD HF.out hpb c2
      have g2 : wr.frozen? ⟨p, 2, none⟩ = false := by
        have hpl := lt_cellD c2
        have := HF.out.block p hpl hpb
        unfold World.frozen? at f2 ⊢
        rw [this]
        exact f2
      clear hm HE
      go_wp2
      go_ret
      exact ⟨rfl, ⟨_, _, _, HEE.out.1⟩, HEE.out.2⟩
theorem sync_any {A : Dk} {B : Nat} {mn ms : Option Nat} {lv : Value} (h : DA Xm w B p A mn ms lv) (hd : A.dead = false) (hlen : A.sure.length + A.loose.length ≤ 1000000) : Calls Tryz.prog 34 #[.pointer (some ⟨p, 0, none⟩)] w fun r w' => r = .returned (.int .i64 0) ∧ DkAt Xm w' B p A.sync ∧ FrD Xm B w w' := by
  rcases h.two with ⟨rfl, rfl, _⟩ | ⟨a, b, rfl, rfl, _⟩
  · exact sync_nil h hd
  · exact sync_some h hd hlen
end
end Go.Proofs.YtnhjflebaeokeaaGreat
end

section
/- What the document's reader (a value) answers to each taking. -/
namespace Go.Proofs.YtnhjflebaeokeaaGreat
open Go.RowKit

theorem b2 (w : World) (o1 o2 : Obj) : Below w.heap.size w ((w.alloc o1).alloc o2) := ((Below.refl _ _).alloc (Nat.le_refl _) _).alloc (by simp) _

end Go.Proofs.YtnhjflebaeokeaaGreat
end

section
/- What the document's reader (a value) answers to each taking: what begins with a number. -/
namespace Go.Proofs.YtnhjflebaeokeaaGreat
open Go.RowKit
theorem rd_via {s : ByteArray} {a n a' : Nat} {e e' : Int} (ha : a ≤ s.size) (h : rdNum s a e = (n, a', e')) :
    (e' ≠ 0 ∧ n = 0 ∧ a' = a ∧ ∀ (α : Type) (z : α) (f : Nat → Nat → α × Nat × Int), rdWith z s a e f = (z, a, e')) ∨ (e' = 0 ∧ e = 0 ∧ n < 18446744073709551616 ∧ ∃ k, a' = a + k ∧ a + k ≤ s.size ∧ ∀ (α : Type) (z : α) (f : Nat → Nat → α × Nat × Int), rdWith z s a e f = f n k) := by
  by_cases he : e = 0
  · subst he
    rcases three s a ha with ⟨m, k, hp, h1, h2, h3, h4⟩ | ⟨m, k, x, hp, hx⟩
    · right
      rw [show rdNum s a 0 = (m, a + k, 0) from rd_ok hp] at h
      simp only [Prod.mk.injEq] at h
      obtain ⟨rfl, rfl, rfl⟩ := h
      exact ⟨rfl, rfl, h4, k, rfl, h2, fun _ _ _ => rd_ok hp⟩
    · left
      rw [show rdNum s a 0 = (0, a, (x : Int)) from rd_bad hp hx] at h
      simp only [Prod.mk.injEq] at h
      obtain ⟨rfl, rfl, rfl⟩ := h
      exact ⟨by omega, rfl, rfl, fun _ _ _ => rd_bad hp hx⟩
  · left
    rw [show rdNum s a e = (0, a, e) from rd_err he] at h
    simp only [Prod.mk.injEq] at h
    obtain ⟨rfl, rfl, rfl⟩ := h
    exact ⟨he, rfl, rfl, fun _ _ _ => rd_err he⟩
end Go.Proofs.YtnhjflebaeokeaaGreat
end

section
/- What Unframe returns, in the program and in the document's words: the text of a frame at a place, the place behind it, the error. -/
namespace Go.Proofs.YtnhjflebaeokeaaGreat
open Go.RowKit
/-- The text of the frame at a place, the place behind it, the error. -/
def unfr (s : ByteArray) (a : Nat) : ByteArray × Nat × Int :=
  if (rdBytes (s.extract a s.size) (rdText (s.extract a s.size) 0 0).2.1 (rdText (s.extract a s.size) 0 0).2.2 4).2.2 = 0 then
    (if ((rdBytes (s.extract a s.size) (rdText (s.extract a s.size) 0 0).2.1 (rdText (s.extract a s.size) 0 0).2.2 4).1.toList == (str (fourB (crcN (s.extract a (a + (rdText (s.extract a s.size) 0 0).2.1)).data.toList))).toList) = true
      then ((rdText (s.extract a s.size) 0 0).1, a + (rdBytes (s.extract a s.size) (rdText (s.extract a s.size) 0 0).2.1 (rdText (s.extract a s.size) 0 0).2.2 4).2.1, 0) else (ByteArray.empty, 0, 6))
  else (ByteArray.empty, 0, (rdBytes (s.extract a s.size) (rdText (s.extract a s.size) 0 0).2.1 (rdText (s.extract a s.size) 0 0).2.2 4).2.2)
theorem unfr_err {s : ByteArray} {a a1 a2 : Nat} {x q : ByteArray} {e1 e2 : Int} (h1 : rdText (s.extract a s.size) 0 0 = (x, a1, e1)) (h2 : rdBytes (s.extract a s.size) a1 e1 4 = (q, a2, e2)) (h : e2 ≠ 0) : unfr s a = (ByteArray.empty, 0, e2) := by
  unfold unfr; simp only [h1, h2, if_neg h]
theorem unfr_no {s : ByteArray} {a a1 a2 : Nat} {x q : ByteArray} {e1 : Int} (h1 : rdText (s.extract a s.size) 0 0 = (x, a1, e1)) (h2 : rdBytes (s.extract a s.size) a1 e1 4 = (q, a2, 0)) (h : (q.toList == (str (fourB (crcN (s.extract a (a + a1)).data.toList))).toList) = false) : unfr s a = (ByteArray.empty, 0, 6) := by
  unfold unfr; simp only [h1, h2, h]; rfl
theorem unfr_ok {s : ByteArray} {a a1 a2 : Nat} {x q : ByteArray} {e1 : Int} (h1 : rdText (s.extract a s.size) 0 0 = (x, a1, e1)) (h2 : rdBytes (s.extract a s.size) a1 e1 4 = (q, a2, 0)) (h : (q.toList == (str (fourB (crcN (s.extract a (a + a1)).data.toList))).toList) = true) : unfr s a = (x, a + a2, 0) := by
  unfold unfr; simp only [h1, h2, h]; rfl
theorem rdText_le {s x : ByteArray} {a a' : Nat} {e e' : Int} (ha : a ≤ s.size) (h : rdText s a e = (x, a', e')) : a' ≤ s.size := by
  obtain ⟨⟨n, b, f⟩, hq⟩ : ∃ q, rdNum s a e = q := ⟨_, rfl⟩
  rcases rd_via ha hq with ⟨_, _, _, hw⟩ | ⟨_, _, _, k, _, hk, hw⟩
  · have := (hw ByteArray ByteArray.empty _).symm.trans h
    simp only [Prod.mk.injEq] at this
    omega
  · have := (hw ByteArray ByteArray.empty _).symm.trans h
    split at this <;> simp only [Prod.mk.injEq] at this <;> omega
theorem rdBytes_ok {s q : ByteArray} {a a' : Nat} {e : Int} (ha : a ≤ s.size) (h : rdBytes s a e 4 = (q, a', 0)) : e = 0 ∧ a + 4 ≤ s.size ∧ q = s.extract a (a + 4) ∧ a' = a + 4 := by
  unfold rdBytes at h
  split at h
  · rw [if_neg (by decide)] at h
    split at h
    · simp at h
    · simp only [Prod.mk.injEq] at h
      refine ⟨by assumption, by omega, h.1.symm, h.2.1.symm⟩
  · simp only [Prod.mk.injEq] at h
    exact absurd h.2.2 (by assumption)
theorem rtext_eq {w : World} {p : Nat} {s x : ByteArray} {a a' : Nat} {e e' : Int} (h : Rd w p s a e) (hs : s.size ≤ maxLen) (ha : a ≤ s.size) (hq : rdText s a e = (x, a', e')) :
    Calls Tryz.prog 120 #[.pointer (some ⟨p, 0, none⟩)] w fun r w' => r = .returned (.string x) ∧ Rd w' p s a' e' ∧ Fr w w' (fun k => k = p) := by
  have := rtext_any h hs ha; rw [hq] at this; exact this
theorem rbytes_eq {w : World} {p : Nat} {s x : ByteArray} {a a' : Nat} {e e' n : Int} (h : Rd w p s a e) (hs : s.size ≤ maxLen) (ha : a ≤ s.size) (hq : rdBytes s a e n = (x, a', e')) :
    Calls Tryz.prog 144 #[.pointer (some ⟨p, 0, none⟩), .int .i64 n] w fun r w' => r = .returned (.string x) ∧ Rd w' p s a' e' ∧ Fr w w' (fun k => k = p) := by
  have := rbytes_any (n := n) h hs ha; rw [hq] at this; exact this
theorem sumbytes_ext (s : ByteArray) (a b : Nat) (w : World) (hs : s.size ≤ maxLen) :
    Calls Tryz.prog 146 #[.string (s.extract a b)] w fun e w' => e = .returned (.string (str (fourB (crcN (s.extract a b).data.toList)))) ∧ Below w.heap.size w w' :=
  sumbytes_any _ w (by rw [ByteArray.size_extract]; omega)

theorem rd_below {w w1 w2 : World} (h : Below w.heap.size w w1) (f : Fr w1 w2 (fun k => k = w.heap.size)) : Below w.heap.size w w2 := h.trans (f.below h.size (fun k hk => by omega))
set_option maxRecDepth 100000 in
set_option maxHeartbeats 400000 in
theorem unframe_any (s : ByteArray) (a : Nat) (w : World) (ha : a ≤ s.size) (hs : s.size ≤ maxLen) :
    Calls Tryz.prog 114 #[.string s, .int .i64 a] w fun e w' => e = .returned (.tuple #[.string (unfr s a).1, .int .i64 (unfr s a).2.1, .int .i64 (unfr s a).2.2]) ∧ Below w.heap.size w w' := by
  have hs' := hs
  unfold maxLen at hs'
  obtain ⟨⟨x, a1, e1⟩, h1⟩ : ∃ q, rdText (s.extract a s.size) 0 0 = q := ⟨_, rfl⟩
  obtain ⟨⟨q, a2, e2⟩, h2⟩ : ∃ q, rdBytes (s.extract a s.size) a1 e1 4 = q := ⟨_, rfl⟩
  have hes : (s.extract a s.size).size = s.size - a := by rw [ByteArray.size_extract]; omega
  have hle1 := rdText_le (Nat.zero_le _) h1
  have H1 : Hid (rdText (s.extract a s.size) 0 0 = (x, a1, e1)) := h1
  have H2 : Hid (rdBytes (s.extract a s.size) a1 e1 4 = (q, a2, e2)) := h2
  have HS : Hid ((s.extract a s.size).size ≤ maxLen) := ext_size s a hs
  have HL : Hid (a1 ≤ (s.extract a s.size).size) := hle1
  have ha1 : a + a1 ≤ s.size := by omega
  clear h1 h2 hle1 hes
  by_cases he : e2 = 0
  · subst he
    have h4 := (rdBytes_ok HL.out H2.out).2.2.2
    have H4 : Hid (a2 = a1 + 4) := h4
    have h5 : a + a1 + 4 ≤ s.size := by
      have := (rdBytes_ok HL.out H2.out).2.1
      have hes : (s.extract a s.size).size = s.size - a := by rw [ByteArray.size_extract]; omega
      omega
    clear h4
    obtain ⟨F, hF⟩ : ∃ F, str (fourB (crcN (s.extract a (a + a1)).data.toList)) = F := ⟨_, rfl⟩
    have HF : Hid (str (fourB (crcN (s.extract a (a + a1)).data.toList)) = F) := hF
    have hB := fun w => sumbytes_ext s a (a + a1) w hs
    rw [hF] at hB
    clear hF
    cases hq : (q.toList == F.toList) with
    | false =>
      have HR : Hid (unfr s a = (ByteArray.empty, 0, 6)) := unfr_no H1.out H2.out (by rw [HF.out]; exact hq)
      go_enter Tryz.func114, Tryz.ntmps114
      go_wp2_with (first
        | (go_at_call 118; refine (newreader_any _ _).mono ?_; rintro e w1 ⟨rfl, hr1, hb1⟩)
        | (go_at_call 120; refine (rtext_eq (a := 0) hr1 HS.out (Nat.zero_le _) H1.out).mono ?_; rintro e w2 ⟨rfl, hr2, hf2⟩)
        | (go_at_call 143; refine (at_any hr2).mono ?_; rintro e w3 ⟨rfl, rfl⟩)
        | (go_at_call 144; refine (rbytes_eq hr2 HS.out HL.out H2.out).mono ?_; rintro e w4 ⟨rfl, hr4, hf4⟩)
        | (go_at_call 145; refine (err_any hr4).mono ?_; rintro e w5 ⟨rfl, rfl⟩)
        | (go_at_call 146; refine (hB _).mono ?_; rintro e w6 ⟨rfl, hb6⟩))
      go_ret3
      rw [HR.out]
      have hb := rd_below (rd_below hb1 hf2) hf4
      exact ⟨rfl, hb.trans (hb6.mono hb.size)⟩
    | true =>
      have HR : Hid (unfr s a = (x, a + a2, 0)) := unfr_ok H1.out H2.out (by rw [HF.out]; exact hq)
      go_enter Tryz.func114, Tryz.ntmps114
      go_wp2_with (first
        | (go_at_call 118; refine (newreader_any _ _).mono ?_; rintro e w1 ⟨rfl, hr1, hb1⟩)
        | (go_at_call 120; refine (rtext_eq (a := 0) hr1 HS.out (Nat.zero_le _) H1.out).mono ?_; rintro e w2 ⟨rfl, hr2, hf2⟩)
        | (go_at_call 143; refine (at_any hr2).mono ?_; rintro e w3 ⟨rfl, rfl⟩)
        | (go_at_call 144; refine (rbytes_eq hr2 HS.out HL.out H2.out).mono ?_; rintro e w4 ⟨rfl, hr4, hf4⟩)
        | (go_at_call 145; refine (err_any hr4).mono ?_; rintro e w5 ⟨rfl, rfl⟩)
        | (go_at_call 146; refine (hB _).mono ?_; rintro e w6 ⟨rfl, hb6⟩))
      go_ret3
      rw [HR.out, H4.out]
      have hb := rd_below (rd_below hb1 hf2) hf4
      exact ⟨rfl, hb.trans (hb6.mono hb.size)⟩
  · have HR : Hid (unfr s a = (ByteArray.empty, 0, e2)) := unfr_err H1.out H2.out he
    have he0 : (e2 == 0) = false := by simp; omega
    go_enter Tryz.func114, Tryz.ntmps114
    go_wp2_with (first
      | (go_at_call 118; refine (newreader_any _ _).mono ?_; rintro e w1 ⟨rfl, hr1, hb1⟩)
      | (go_at_call 120; refine (rtext_eq (a := 0) hr1 HS.out (Nat.zero_le _) H1.out).mono ?_; rintro e w2 ⟨rfl, hr2, hf2⟩)
      | (go_at_call 143; refine (at_any hr2).mono ?_; rintro e w3 ⟨rfl, rfl⟩)
      | (go_at_call 144; refine (rbytes_eq hr2 HS.out HL.out H2.out).mono ?_; rintro e w4 ⟨rfl, hr4, hf4⟩)
      | (go_at_call 145; refine (err_any hr4).mono ?_; rintro e w5 ⟨rfl, rfl⟩))
    go_ret3
    rw [HR.out]
    exact ⟨rfl, rd_below (rd_below hb1 hf2) hf4⟩
end Go.Proofs.YtnhjflebaeokeaaGreat
end

section
/- Plain mathematics of frames: a text's frame is read again, whatever follows; what is read as a frame are just its text's bytes. -/
namespace Go.Proofs.YtnhjflebaeokeaaGreat

theorem ext_list (s : ByteArray) (i j : Nat) : (s.extract i j).data.toList = (s.data.toList.drop i).take (j - i) := by simp
theorem ba_eq {a b : ByteArray} (h : a.data.toList = b.data.toList) : a = b := by
  apply ByteArray.ext
  exact Array.toList_inj.1 h
theorem ext_full (s : ByteArray) : s.extract 0 s.size = s := ba_eq (by rw [ext_list]; simp [List.take_of_length_le])
theorem ba_toList (b : ByteArray) : b.toList = b.data.toList := ByteArray.toList_eq b
theorem crc4 (n : Nat) : (fourB n).length = 4 := rfl

theorem unfr_frame (s : ByteArray) (m : List UInt8) (hs : s.size < 18446744073709551616) : unfr (str (frameB s.data.toList ++ m)) 0 = (s, (frameB s.data.toList).length, 0) := by
  have hL : s.data.toList.length = s.size := by simp
  generalize hX : str (frameB s.data.toList ++ m) = X
  have hd : X.data.toList = numB s.size ++ (s.data.toList ++ (fourB (crcN (textB s.data.toList)) ++ m)) := by
    rw [← hX]
    show frameB s.data.toList ++ m = _
    unfold frameB textB
    rw [hL]; simp
  have hsz : X.size = (numB s.size).length + (s.size + (4 + m.length)) := by
    have : X.size = X.data.toList.length := by simp
    rw [this, hd]; simp [hL, crc4]
  have hp : pnum (X.data.toList.drop 0) = (s.size, (numB s.size).length, 0) := by rw [List.drop_zero, hd]; exact pnum_num _ hs
  have hx : X.extract (numB s.size).length ((numB s.size).length + s.size) = s := ba_eq (by
    rw [ext_list, hd, List.drop_left, show (numB s.size).length + s.size - (numB s.size).length = s.size by omega, ← hL, List.take_left])
  have h1 : rdText (X.extract 0 X.size) 0 0 = (s, (numB s.size).length + s.size, 0) := by
    rw [ext_full]
    refine (rd_ok hp).trans ?_
    simp only [Nat.zero_add]
    rw [if_neg (by omega), hx]
  have h2 : rdBytes (X.extract 0 X.size) ((numB s.size).length + s.size) 0 4 = (X.extract ((numB s.size).length + s.size) ((numB s.size).length + s.size + 4), (numB s.size).length + s.size + 4, 0) := by
    rw [ext_full]
    unfold rdBytes
    rw [if_pos rfl, if_neg (by decide), if_neg (by omega)]; rfl
  have hd2 : X.data.toList = textB s.data.toList ++ (fourB (crcN (textB s.data.toList)) ++ m) := by rw [hd]; unfold textB; rw [hL]; simp
  have hl2 : (textB s.data.toList).length = (numB s.size).length + s.size := by unfold textB; simp
  have h3 : (X.extract 0 (0 + ((numB s.size).length + s.size))).data.toList = textB s.data.toList := by
    rw [ext_list, hd2, List.drop_zero, Nat.zero_add, Nat.sub_zero, ← hl2, List.take_left]
  have h4 : (X.extract ((numB s.size).length + s.size) ((numB s.size).length + s.size + 4)).toList = fourB (crcN (textB s.data.toList)) := by
    rw [ba_toList, ext_list, hd2, ← hl2, List.drop_left, show (textB s.data.toList).length + 4 - (textB s.data.toList).length = (fourB (crcN (textB s.data.toList))).length by rw [crc4]; omega, List.take_left]
  rw [unfr_ok h1 h2 (by rw [h3, h4, str_toList]; simp)]
  have : (frameB s.data.toList).length = (numB s.size).length + s.size + 4 := by unfold frameB; rw [List.length_append, hl2, crc4]
  rw [this, Nat.zero_add]

theorem unfr_only {s x : ByteArray} {a : Nat} (h : unfr s 0 = (x, a, 0)) : a ≤ s.size ∧ s.data.toList.take a = frameB x.data.toList := by
  obtain ⟨⟨y, a1, e1⟩, h1⟩ : ∃ q, rdText (s.extract 0 s.size) 0 0 = q := ⟨_, rfl⟩
  obtain ⟨⟨q, a2, e2⟩, h2⟩ : ∃ q, rdBytes (s.extract 0 s.size) a1 e1 4 = q := ⟨_, rfl⟩
  by_cases he : e2 = 0
  · subst he
    cases hq : (q.toList == (str (fourB (crcN (s.extract 0 (0 + a1)).data.toList))).toList) with
    | false => rw [unfr_no h1 h2 hq] at h; simp at h
    | true =>
      rw [unfr_ok h1 h2 hq] at h
      simp only [Prod.mk.injEq, and_true, Nat.zero_add] at h
      obtain ⟨rfl, rfl⟩ := h
      rw [ext_full] at h1 h2
      have hle := rdText_le (Nat.zero_le _) h1
      obtain ⟨rfl, h5, rfl, rfl⟩ := rdBytes_ok hle h2
      refine ⟨h5, ?_⟩
      obtain ⟨⟨n, b, f⟩, hn⟩ : ∃ q, rdNum s 0 0 = q := ⟨_, rfl⟩
      rcases rd_via (Nat.zero_le _) hn with ⟨hf, _, _, hw⟩ | ⟨_, _, hlt, k, _, hk, hw⟩
      · have := (hw ByteArray ByteArray.empty _).symm.trans h1
        simp only [Prod.mk.injEq] at this
        exact absurd this.2.2 hf
      · have ht := (hw ByteArray ByteArray.empty _).symm.trans h1
        simp only [Nat.zero_add] at ht hk
        by_cases hmore : s.size - k < n
        · rw [if_pos hmore] at ht; simp at ht
        · rw [if_neg hmore] at ht
          simp only [Prod.mk.injEq, and_true] at ht
          obtain ⟨rfl, rfl⟩ := ht
          have hp : pnum s.data.toList = (n, k, 0) := by
            rcases three s 0 (Nat.zero_le _) with ⟨n', k', hp, _⟩ | ⟨n', k', x', hp, hx⟩
            · have e1 := (rd_ok (z := (0 : Nat)) (f := fun n k => (n, k, (0 : Int))) hp).symm.trans (hw Nat 0 (fun n k => (n, k, 0)))
              simp only [Prod.mk.injEq, and_true] at e1
              rw [List.drop_zero] at hp
              rw [hp, e1.1, e1.2]
            · have e1 := (rd_bad (z := (0 : Nat)) (f := fun n k => (n, k, (0 : Int))) hp hx).symm.trans (hw Nat 0 (fun n k => (n, k, 0)))
              simp only [Prod.mk.injEq] at e1
              omega
          have htk := pnum_only hp
          have hxl : (s.extract k (k + n)).data.toList = (s.data.toList.drop k).take n := by rw [ext_list, show k + n - k = n by omega]
          have hln : ((s.data.toList.drop k).take n).length = n := by simp; omega
          have htext : s.data.toList.take (k + n) = textB (s.extract k (k + n)).data.toList := by
            unfold textB
            rw [hxl, hln, ← htk, List.take_add]
          have hqe : (s.extract (k + n) (k + n + 4)).toList = fourB (crcN (s.extract 0 (0 + (k + n))).data.toList) := by
            have := eq_of_beq hq
            rw [this, str_toList]
          have h0 : (s.extract 0 (0 + (k + n))).data.toList = textB (s.extract k (k + n)).data.toList := by
            rw [ext_list, List.drop_zero, Nat.zero_add, Nat.sub_zero, htext]
          rw [h0, ba_toList, ext_list, show k + n + 4 - (k + n) = 4 by omega] at hqe
          rw [List.take_add, htext, hqe]
          rfl
  · rw [unfr_err h1 h2 he] at h
    simp only [Prod.mk.injEq] at h
    exact absurd h.2.2 he
end Go.Proofs.YtnhjflebaeokeaaGreat
end
