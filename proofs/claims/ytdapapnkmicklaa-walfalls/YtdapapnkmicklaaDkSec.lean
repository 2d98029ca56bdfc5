/- Sync: what is loose becomes sure. -/
import Derived.Test.YtdapapnkmicklaaDkAw
namespace Go.Proofs.Ytdapapnkmicklaa
open Go.RowKit Go.Maps
attribute [local go_sem] Oper.semAt_some
/-- A file is made sure as it is now. -/
def secF (x : Bs) (now s : Fl) : Fl := if (getF x now).isSome then putF x (ofF x now) s else delF x s
theorem sort_secF {s : Fl} (x : Bs) (now : Fl) (h : SortF s) : SortF (secF x now s) := by
  unfold secF
  split
  · exact sort_putF _ _ h
  · exact sort_delF _ h
theorem len_secF (x : Bs) (now s : Fl) : (secF x now s).length ≤ s.length + 1 := by
  unfold secF
  split
  · exact len_putF _ _ _
  · exact Nat.le_trans (len_delF _ _) (Nat.le_succ _)
theorem getF_secF {s : Fl} (h : SortF s) (x y : Bs) (now : Fl) : getF y (secF x now s) = if y = x then getF y now else getF y s := by
  unfold secF
  cases e : (getF x now).isSome with
  | true =>
    obtain ⟨v, hv⟩ := Option.isSome_iff_exists.1 e
    rw [if_pos rfl, getF_put h]
    by_cases e2 : y = x
    · subst e2
      rw [if_pos rfl, if_pos rfl, hv]
      unfold ofF
      rw [hv]
      rfl
    · rw [if_neg e2, if_neg e2]
  | false =>
    rw [if_neg (by decide), getF_del h]
    by_cases e2 : y = x
    · subst e2
      rw [if_pos rfl, if_pos rfl]
      exact (by cases hh : getF y now with
        | none => rfl
        | some v => rw [hh] at e; cases e)
    · rw [if_neg e2, if_neg e2]
def secS (now : Fl) (s : Fl) (c : Chg) : Fl := if c.k = 2 then secF c.to now (secF c.nm now s) else secF c.nm now s
theorem sort_secS {s : Fl} (now : Fl) (c : Chg) (h : SortF s) : SortF (secS now s c) := by
  unfold secS
  split
  · exact sort_secF _ _ (sort_secF _ _ h)
  · exact sort_secF _ _ h
def touch (y : Bs) (c : Chg) : Prop := y = c.nm ∨ (c.k = 2 ∧ y = c.to)
theorem getF_secS {s : Fl} (h : SortF s) (c : Chg) (y : Bs) (now : Fl) : (touch y c → getF y (secS now s c) = getF y now) ∧ (¬ touch y c → getF y (secS now s c) = getF y s) := by
  unfold secS touch
  by_cases e : c.k = 2
  · rw [if_pos e, getF_secF (sort_secF _ _ h), getF_secF h]
    by_cases e1 : y = c.to
    · rw [if_pos e1]
      exact ⟨fun _ => rfl, fun hn => absurd (.inr ⟨e, e1⟩) hn⟩
    · rw [if_neg e1]
      by_cases e2 : y = c.nm
      · rw [if_pos e2]
        exact ⟨fun _ => rfl, fun hn => absurd (.inl e2) hn⟩
      · rw [if_neg e2]
        exact ⟨fun ht => (by rcases ht with ht | ht; exact absurd ht e2; exact absurd ht.2 e1), fun _ => rfl⟩
  · rw [if_neg e, getF_secF h]
    by_cases e2 : y = c.nm
    · rw [if_pos e2]
      exact ⟨fun _ => rfl, fun hn => absurd (.inl e2) hn⟩
    · rw [if_neg e2]
      exact ⟨fun ht => (by rcases ht with ht | ht; exact absurd ht e2; exact absurd ht.1 e), fun _ => rfl⟩
theorem sort_secL {s : Fl} (now : Fl) (L : List Chg) (h : SortF s) : SortF (L.foldl (secS now) s) := by
  induction L generalizing s with
  | nil => exact h
  | cons c r ih => exact ih (sort_secS now c h)
theorem getF_secL (now : Fl) (y : Bs) (L : List Chg) {s : Fl} (h : SortF s) : ((∃ c ∈ L, touch y c) → getF y (L.foldl (secS now) s) = getF y now) ∧ ((∀ c ∈ L, ¬ touch y c) → getF y (L.foldl (secS now) s) = getF y s) := by
  induction L generalizing s with
  | nil => exact ⟨fun ⟨c, hc, _⟩ => (by cases hc), fun _ => rfl⟩
  | cons c r ih =>
    obtain ⟨i1, i2⟩ := ih (sort_secS now c h)
    obtain ⟨g1, g2⟩ := getF_secS h c y now
    refine ⟨fun hh => ?_, fun hh => ?_⟩
    · by_cases hr : ∃ d ∈ r, touch y d
      · exact i1 hr
      · have hn : ∀ d ∈ r, ¬ touch y d := fun d hd ht => hr ⟨d, hd, ht⟩
        obtain ⟨d, hd, ht⟩ := hh
        rcases List.mem_cons.1 hd with rfl | hd
        · exact (i2 hn).trans (g1 ht)
        · exact absurd ht (hn d hd)
    · exact (i2 (fun d hd => hh d (List.mem_cons_of_mem _ hd))).trans (g2 (hh c List.mem_cons_self))
theorem getF_doF {l : Fl} (h : SortF l) (c : Chg) (y : Bs) (hn : ¬ touch y c) : getF y (doF l c) = getF y l := by
  unfold touch at hn
  have h1 : ¬ y = c.nm := fun e => hn (.inl e)
  unfold doF
  split
  · rw [getF_put h, if_neg h1]
  · split
    · rw [getF_put h, if_neg h1]
    · split
      · rename_i e
        have h2 : ¬ y = c.to := fun e2 => hn (.inr ⟨e, e2⟩)
        rw [getF_put (sort_delF _ h), if_neg h2, getF_del h, if_neg h1]
      · rw [getF_del h, if_neg h1]
theorem getF_doneF (L : List Chg) {l : Fl} (h : SortF l) (y : Bs) (hn : ∀ c ∈ L, ¬ touch y c) : getF y (doneF l L) = getF y l := by
  induction L generalizing l with
  | nil => rfl
  | cons c r ih => exact (ih (sort_doF c h) (fun d hd => hn d (List.mem_cons_of_mem _ hd))).trans (getF_doF h c y (hn c List.mem_cons_self))
theorem sec_all {s : Fl} (h : SortF s) (L : List Chg) : L.foldl (secS (doneF s L)) s = doneF s L := by
  refine sortF_ext (sort_secL _ _ h) (sort_doneF _ h) fun y => ?_
  obtain ⟨g1, g2⟩ := getF_secL (doneF s L) y L h
  by_cases hh : ∃ c ∈ L, touch y c
  · exact g1 hh
  · have hn : ∀ c ∈ L, ¬ touch y c := fun c hc ht => hh ⟨c, hc, ht⟩
    rw [g2 hn, getF_doneF L h y hn]
theorem len_secS (now s : Fl) (c : Chg) : (secS now s c).length ≤ s.length + 2 := by
  unfold secS
  split
  · have h1 := len_secF c.nm now s
    have h2 := len_secF c.to now (secF c.nm now s)
    omega
  · have h1 := len_secF c.nm now s
    omega
theorem len_secL (now : Fl) (L : List Chg) (s : Fl) : (L.foldl (secS now) s).length ≤ s.length + 2 * L.length := by
  induction L generalizing s with
  | nil => exact Nat.le_refl _
  | cons c r ih =>
    have h1 := ih (secS now s c)
    have h2 := len_secS now s c
    simp only [List.foldl_cons, List.length_cons]
    omega
section
variable {w : World} {p a b : Nat} {now s : Fl} {x : Bs}
set_option linter.unusedSimpArgs false in
set_option maxRecDepth 100000 in
set_option maxHeartbeats 4000000 in
theorem secure_any (c0 : w.cell? ⟨p, 0, none⟩ = some (.map (some a))) (c1 : w.cell? ⟨p, 1, none⟩ = some (.map (some b))) (ha : FMap w a now) (hb : FMap w b s) (hx : x.length ≤ maxLen) (hl : s.length < maxLen) : Calls Try.prog 58 #[.pointer (some ⟨p, 0, none⟩), .string (str x)] w fun r w' => r = .returned (.tuple #[]) ∧ FMap w' b (secF x now s) ∧ Fr w w' (fun k => k = b) := by
  have hlk := ha.lookOk hx
  have HSec : Hid (secF x now s = if (getF x now).isSome then putF x (ofF x now) s else delF x s) := rfl
  cases hs : (getF x now).isSome with
  | false =>
    rw [hs] at hlk HSec
    generalize ofF x now = vv at hlk HSec
    have b1 := one_newD w (.cells #[.string (str vv)] 112)
    obtain ⟨w2, hrun, hP, hF2⟩ := (hb.new b1).del hx 0
    have d1 := (b1.cell (p := ⟨p, 1, none⟩) (lt_cellD c1)).trans c1
    have HR : Hid (FMap w2 b (secF x now s) ∧ Fr w w2 (fun k => k = b)) := ⟨by rw [HSec.out]; exact hP, (Fr.ofBelow b1 _).trans hF2 (fun _ _ h => h)⟩
    obtain ⟨W, hW⟩ : ∃ W, w.alloc (.cells #[.string (str vv)] 112) = W := ⟨_, rfl⟩
    rw [hW] at hrun d1
    clear hP hF2 ha hb b1 hs HSec
    go_enter Try.func58, Try.ntmps58
    go_wp2
    refine bodyPost_ret (results_none rfl _ _ _) rfl ?_
    exact ⟨rfl, HR.out⟩
  | true =>
    rw [hs] at hlk HSec
    generalize ofF x now = vv at hlk HSec
    have b1 := one_newD w (.cells #[.string (str vv)] 112)
    have hQ := heap_alloc_new w (.cells #[.string (str vv)] 112)
    obtain ⟨W, hW⟩ : ∃ W, w.alloc (.cells #[.string (str vv)] 112) = W := ⟨_, rfl⟩
    have bd : Below w.heap.size w W.drew := by rw [← hW]; exact b1.drew
    have hQd : W.drew.heap[w.heap.size]? = some (.cells #[.string (str vv)] 112 (0, 0)) := by rw [← hW]; exact hQ
    obtain ⟨Wd, hWd⟩ : ∃ Wd, W.drew = Wd := ⟨_, rfl⟩
    rw [hWd] at bd hQd
    obtain ⟨w2, hrun, hP, hF2⟩ := (hb.new bd).put hl hx vv
    have y1 := (bd.cell (p := ⟨p, 1, none⟩) (lt_cellD c1)).trans c1
    have HR : Hid (FMap w2 b (secF x now s) ∧ Fr w w2 (fun k => k = b)) := ⟨by rw [HSec.out]; exact hP, (Fr.ofBelow bd _).trans hF2 (fun _ _ h => h)⟩
    clear hP hF2 ha hb b1 hs HSec bd hQ
    go_enter Try.func58, Try.ntmps58
    go_upto_region 3 with (fail)
    obtain ⟨q, hq⟩ : ∃ q, w.heap.size = q := ⟨_, rfl⟩
    rw [hq] at hQd ⊢
    have z0 : Wd.cell? ⟨q, 0, none⟩ = some (.string (str vv)) := (cell_blk hQd).trans rfl
    clear hq hQd
    refine wp_calmD ?_
    refine wp_region_L [6] (fun w' : World => w'.cell? ⟨p, 1, none⟩ = some (.map (some b)) ∧ w'.cell? ⟨q, 0, none⟩ = some (.string (str vv))) (by kernel_rfl) ?_
    rw [hWd]
    clear hWd hW
    have hS : (fun w' : World => w'.cell? ⟨p, 1, none⟩ = some (.map (some b)) ∧ w'.cell? ⟨q, 0, none⟩ = some (.string (str vv))) Wd := ⟨y1, z0⟩
    refine wpAnyL_take (i := 0) 22 (v := .pointer (some ⟨p, 0, none⟩)) rfl rfl (by kernel_rfl) (by kernel_rfl) (by kernel_rfl) (by kernel_rfl) (by kernel_rfl) (by kernel_rfl) (fun _ _ _ h => h) hS (by rfl) (by intro w' hSw; obtain ⟨y1, z0⟩ := hSw; go_simp <;> with_reducible rfl) ?_
    simp only [Act.put, List.setIfInBounds_toArray, List.set_cons_zero, List.set_cons_succ]
    refine wpAnyL_take (i := 1) 23 (v := .pointer (some ⟨p, 0, none⟩)) rfl rfl (by kernel_rfl) (by kernel_rfl) (by kernel_rfl) (by kernel_rfl) (by kernel_rfl) (by kernel_rfl) (fun _ _ _ h => h) hS (by rfl) (by intro w' hSw; obtain ⟨y1, z0⟩ := hSw; go_simp <;> with_reducible rfl) ?_
    simp only [Act.put, List.setIfInBounds_toArray, List.set_cons_zero, List.set_cons_succ]
    refine wpAnyL_take (i := 2) 24 (v := .pointer (some ⟨p, 1, none⟩)) rfl rfl (by kernel_rfl) (by kernel_rfl) (by kernel_rfl) (by kernel_rfl) (by kernel_rfl) (by kernel_rfl) (fun _ _ _ h => h) hS (by rfl) (by intro w' hSw; obtain ⟨y1, z0⟩ := hSw; go_simp <;> with_reducible rfl) ?_
    simp only [Act.put, List.setIfInBounds_toArray, List.set_cons_zero, List.set_cons_succ]
    refine wpAnyL_take (i := 3) 25 (v := .map (some b)) rfl rfl (by kernel_rfl) (by kernel_rfl) (by kernel_rfl) (by kernel_rfl) (by kernel_rfl) (by kernel_rfl) (fun _ _ _ h => h) hS (by rfl) (by intro w' hSw; obtain ⟨y1, z0⟩ := hSw; go_simp <;> with_reducible rfl) ?_
    simp only [Act.put, List.setIfInBounds_toArray, List.set_cons_zero, List.set_cons_succ]
    refine wpAnyL_take (i := 4) 26 (v := .string (str x)) rfl rfl (by kernel_rfl) (by kernel_rfl) (by kernel_rfl) (by kernel_rfl) (by kernel_rfl) (by kernel_rfl) (fun _ _ _ h => h) hS (by rfl) (by intro w' hSw; obtain ⟨y1, z0⟩ := hSw; go_simp <;> with_reducible rfl) ?_
    simp only [Act.put, List.setIfInBounds_toArray, List.set_cons_zero, List.set_cons_succ]
    refine wpAnyL_take (i := 5) 27 (v := .agg #[.string (str vv)]) rfl rfl (by kernel_rfl) (by kernel_rfl) (by kernel_rfl) (by kernel_rfl) (by kernel_rfl) (by kernel_rfl) (fun _ _ _ h => h) hS (by rfl) (by intro w' hSw; obtain ⟨y1, z0⟩ := hSw; go_simp <;> with_reducible rfl) ?_
    simp only [Act.put, List.setIfInBounds_toArray, List.set_cons_zero, List.set_cons_succ]
    refine wpAnyL_one (i := 6) (by kernel_rfl) rfl (fun Ka hKa => ?_)
    go_simp
    refine hKa.out _ _ (fun h => absurd h (Bool.eq_false_iff.1 (by kernel_rfl))) ?_
    clear hKa Ka
    refine wpAnyL_done (by kernel_rfl) ?_ _
    go_end0
    exact ⟨rfl, HR.out⟩
/-- Sync of a disk that has power. -/
theorem sync_end {A : Dk} {B : Nat} {lv : Value} {V : World} (h : DA w B p A (some a) (some b) lv) (f : Fr w V (fun k => k = b)) (hs : FMap V b A.now) (hab : a ≠ b) : DA (V.setCell ⟨p, 2, none⟩ (.slice none 0 0)) B p ⟨A.now, [], A.n, A.dead, A.pv⟩ (some a) (some b) (.slice none 0 0) ∧ FrD B w (V.setCell ⟨p, 2, none⟩ (.slice none 0 0)) := by
  have hpa : p ≠ a := fun e => h.pmap.1 (by rw [e])
  have hpb : p ≠ b := fun e => h.pmap.2 (by rw [e])
  have p1 := (f.block p h.plt hpb).trans h.blk
  have p2 := blk_set (i := 2) (.slice none 0 0) p1
  have fs : Fr V (V.setCell ⟨p, 2, none⟩ (.slice none 0 0)) (fun k => k = p) := Fr.setCell (S := fun k => k = p) V ⟨p, 2, none⟩ _ rfl
  have ha : FMap w a A.now := h.now
  have ha1 := ha.same (f.block a ha.lt hab)
  refine ⟨⟨p2, ?_, ?_, .inr ⟨a, b, rfl, rfl, hab⟩, ⟨rfl, .inl ⟨rfl, rfl⟩⟩, fun c hc => (by cases hc), h.hp, h.hn, h.hs⟩, ?_⟩
  · exact ha1.same (fs.block a ha1.lt (fun e => hpa e.symm))
  · exact hs.same (fs.block b hs.lt (fun e => hpb e.symm))
  · have tagB : DkB w b := .inl (map_tag h.sure rfl)
    refine ⟨fs.os.trans f.os, fs.tape.trans f.tape, fs.output.trans f.output, Nat.le_trans f.size fs.size, fun k hk hn => ?_⟩
    have kb : k ≠ b := fun e => hn ⟨by rw [e]; exact h.hs b rfl, by rw [e]; exact tagB⟩
    have kp : k ≠ p := fun e => hn ⟨by rw [e]; exact h.hp, by rw [e]; exact .inr ⟨_, _, _, h.blk, .inl rfl⟩⟩
    have := f.size
    exact (fs.block k (by omega) kp).trans (f.block k hk kb)
def Dk.sync (A : Dk) : Dk := ⟨A.now, [], A.n, A.dead, A.pv⟩
set_option maxRecDepth 100000 in
set_option maxHeartbeats 400000 in
theorem sync_nil {A : Dk} {B : Nat} {lv : Value} (h : DA w B p A none none lv) (hd : A.dead = false) : Calls Try.prog 28 #[.pointer (some ⟨p, 0, none⟩)] w fun r w' => r = .returned (.int .i64 0) ∧ DkAt w' B p A.sync ∧ FrD B w w' := by
  have hloose : A.loose = [] := by
    rcases h.two with ⟨_, _, e⟩ | ⟨a', b', e, _⟩
    · exact e
    · cases e
  have hnow : A.now = [] := h.now
  have HE : Hid (A.sync = ⟨[], [], A.n, A.dead, A.pv⟩) := by show _ = _; unfold Dk.sync; rw [hnow]
  have hDe := dead_any h
  rw [hd] at hDe
  have fs : Fr w (w.setCell ⟨p, 2, none⟩ (.slice none 0 0)) (fun k => k = p) := Fr.setCell (S := fun k => k = p) w ⟨p, 2, none⟩ _ rfl
  have HD : Hid (DA (w.setCell ⟨p, 2, none⟩ (.slice none 0 0)) B p ⟨[], [], A.n, A.dead, A.pv⟩ none none (.slice none 0 0)) := ⟨blk_set (i := 2) (.slice none 0 0) h.blk, rfl, rfl, .inl ⟨rfl, rfl, rfl⟩, ⟨rfl, .inl ⟨rfl, rfl⟩⟩, fun c hc => (by cases hc), h.hp, fun k e => (by cases e), fun k e => (by cases e)⟩
  have HF : Hid (FrD B w (w.setCell ⟨p, 2, none⟩ (.slice none 0 0))) := h.frP fs (fun _ e => e)
  obtain ⟨c0, c1, c2, c3, c4, c5⟩ := h.cells
  have f2 := h.free 2
  obtain ⟨ao, cp, rfl⟩ := h.shape
  have hln : A.loose.length = 0 := by rw [hloose]; rfl
  rw [hln] at c2
  clear h fs hloose hnow hd hln
  go_enter Try.func28, Try.ntmps28
  go_wp2_with (go_at_call 25; refine hDe.mono ?_; rintro r w ⟨rfl, rfl⟩)
  go_loop [4, 12] (fun _ i => i = .int .i64 0) (fun _ _ => 0)
  case atStart => rfl
  case round =>
    obtain rfl := hrel
    go_wp2
    go_ret
    rw [HE.out]
    exact ⟨rfl, ⟨_, _, _, HD.out⟩, HF.out⟩
theorem secL_take (now s : Fl) (L : List Chg) (k : Nat) (h : k < L.length) : (L.take (k + 1)).foldl (secS now) s = secS now ((L.take k).foldl (secS now) s) L[k] := by
  rw [List.take_succ_eq_append_getElem h, List.foldl_append]
  rfl
set_option maxRecDepth 100000 in
set_option maxHeartbeats 1600000 in
theorem sync_some {A : Dk} {B : Nat} {lv : Value} (h : DA w B p A (some a) (some b) lv) (hd : A.dead = false) (hlen : A.sure.length + A.loose.length ≤ 1000000) : Calls Try.prog 28 #[.pointer (some ⟨p, 0, none⟩)] w fun r w' => r = .returned (.int .i64 0) ∧ DkAt w' B p A.sync ∧ FrD B w w' := by
  have hab : a ≠ b := by
    rcases h.two with ⟨e, _⟩ | ⟨a', b', e1, e2, hne⟩
    · cases e
    · cases e1; cases e2; exact hne
  have hpb : p ≠ b := fun e => h.pmap.2 (by rw [e])
  have hDe := dead_any h
  rw [hd] at hDe
  have hfa : FMap w a A.now := h.now
  have hfb : FMap w b A.sure := h.sure
  obtain ⟨c0, c1, c2, c3, c4, c5⟩ := h.cells
  have f2 := h.free 2
  obtain ⟨ao, cp, rfl⟩ := h.shape
  have HEnd : Hid (∀ V, Fr w V (fun k => k = b) → FMap V b A.now → DA (V.setCell ⟨p, 2, none⟩ (.slice none 0 0)) B p A.sync (some a) (some b) (.slice none 0 0) ∧ FrD B w (V.setCell ⟨p, 2, none⟩ (.slice none 0 0))) := fun V f hs => sync_end h f hs hab
  have HNow : Hid (A.loose.foldl (secS A.now) A.sure = A.now) := sec_all hfb.1 A.loose
  have HLen : Hid (A.sure.length + A.loose.length ≤ 1000000) := hlen
  have HRow : Hid (0 < A.loose.length → ∃ g, ao = some ⟨g, 0, none⟩ ∧ g ≠ b ∧ ∀ j (hj : j < A.loose.length), w.cell? ⟨g, j * 4, none⟩ = some (.int .i64 A.loose[j].k) ∧ w.cell? ⟨g, j * 4 + 1, none⟩ = some (.string (str A.loose[j].nm)) ∧ w.cell? ⟨g, j * 4 + 2, none⟩ = some (.string (str A.loose[j].to)) ∧ w.cell? ⟨g, j * 4 + 3, none⟩ = some (.string (str A.loose[j].s))) := fun hL => by
    obtain ⟨g, e, _, _, hc⟩ := chrow_at h.row hL
    subst e
    exact ⟨g, rfl, fun e => (h.mrow (k := g) rfl).2 (by rw [e]), hc⟩
  have HOk : Hid (∀ j (hj : j < A.loose.length), A.loose[j].ok) := fun j hj => h.ok _ (List.getElem_mem hj)
  have HA : Hid (FMap w a A.now) := hfa
  have HB0 : Hid (FMap w b A.sure) := hfb
  have HP : Hid (p ≠ b ∧ a ≠ b) := ⟨hpb, hab⟩
  clear h hfa hfb hlen hd hab
  obtain ⟨L, hLe⟩ : ∃ L, A.loose = L := ⟨_, rfl⟩
  rw [hLe] at c2 HNow HRow HOk HLen
  obtain ⟨n0, hn0⟩ : ∃ n0, L.length = n0 := ⟨_, rfl⟩
  have HN0 : Hid (L.length = n0) := hn0
  rw [hn0] at c2
  have hn6 : n0 ≤ 1000000 := by have := HLen.out; omega
  clear hn0 hLe
  go_enter Try.func28, Try.ntmps28
  go_wp2_with (go_at_call 25; refine hDe.mono ?_; rintro r w ⟨rfl, rfl⟩)
  go_loopw [4, 12] (fun _ i wr => ∃ k : Nat, k ≤ n0 ∧ i = .int .i64 k ∧ FMap wr b ((L.take k).foldl (secS A.now) A.sure) ∧ Fr w wr (fun j => j = b)) (fun _ i _ => n0 - (intOf i).toNat)
  case atStart => exact ⟨0, Nat.zero_le _, rfl, HB0.out, Fr.refl _ _⟩
  case round =>
    obtain ⟨k, hkK, rfl, hm, hf⟩ := hrel
    have HM : Hid (FMap wr b ((L.take k).foldl (secS A.now) A.sure)) := hm
    have HF : Hid (Fr w wr (fun j => j = b)) := hf
    clear hm hf
    by_cases hlt : k < n0
    · have HLt : Hid (k < n0) := hlt
      have hkl : k < L.length := by have := HN0.out; omega
      obtain ⟨g, rfl, hgb, hcs⟩ := HRow.out (by omega)
      obtain ⟨z0, z1, z2, z3⟩ := hcs k hkl
      replace z0 := fr_cellD HF.out hgb z0
      replace z1 := fr_cellD HF.out hgb z1
      replace z2 := fr_cellD HF.out hgb z2
      replace z3 := fr_cellD HF.out hgb z3
      have HY : Hid ((L.take (k + 1)).foldl (secS A.now) A.sure = secS A.now ((L.take k).foldl (secS A.now) A.sure) L[k]) := secL_take _ _ _ _ hkl
      have HOy : Hid L[k].ok := HOk.out k hkl
      have HSl : Hid (((L.take k).foldl (secS A.now) A.sure).length + 1 < maxLen) := by
        have h1 := len_secL A.now (L.take k) A.sure
        have h2 := HLen.out
        rw [List.length_take] at h1
        show _ < maxLen
        unfold maxLen
        omega
      generalize L[k] = y at z0 z1 z2 z3 HY HOy
      clear hkl hcs
      have h32 : (32 : Nat) ≤ maxLen := by decide
      have HS1 : Hid (∀ V, Below wr.heap.size wr V → Calls Try.prog 58 #[.pointer (some ⟨p, 0, none⟩), .string (str y.nm)] V fun r w' => r = .returned (.tuple #[]) ∧ FMap w' b (secF y.nm A.now ((L.take k).foldl (secS A.now) A.sure)) ∧ Fr V w' (fun k => k = b)) := fun V hV => by
        have fV : Fr w V (fun j => j = b) := HF.out.trans (Fr.ofBelow hV _) (fun _ _ h => h)
        exact secure_any (fr_cellD fV HP.out.1 c0) (fr_cellD fV HP.out.1 c1) (HA.out.same (fV.block a HA.out.lt HP.out.2)) (HM.out.new hV) (Nat.le_trans HOy.out.2.1 h32) (by have := HSl.out; omega)
      have HS2 : Hid (∀ V, Fr w V (fun j => j = b) → FMap V b (secF y.nm A.now ((L.take k).foldl (secS A.now) A.sure)) → Calls Try.prog 58 #[.pointer (some ⟨p, 0, none⟩), .string (str y.to)] V fun r w' => r = .returned (.tuple #[]) ∧ FMap w' b (secF y.to A.now (secF y.nm A.now ((L.take k).foldl (secS A.now) A.sure))) ∧ Fr V w' (fun k => k = b)) := fun V fV hm => by
        exact secure_any (fr_cellD fV HP.out.1 c0) (fr_cellD fV HP.out.1 c1) (HA.out.same (fV.block a HA.out.lt HP.out.2)) hm (Nat.le_trans HOy.out.2.2 h32) (by have := HSl.out; have := len_secF y.nm A.now ((L.take k).foldl (secS A.now) A.sure); omega)
      clear h32
      go_upto_region 6 with (fail)
      generalize hV : World.alloc _ _ = V
      have hQ : V.heap[wr.heap.size]? = some (.cells #[.int .i64 y.k, .string (str y.nm), .string (str y.to), .string (str y.s)] 104 (0, 0)) := by rw [← hV]; exact heap_alloc_new wr _
      have bV : Below wr.heap.size wr V := by rw [← hV]; exact one_newD wr _
      obtain ⟨q, hq⟩ : ∃ q, wr.heap.size = q := ⟨_, rfl⟩
      have HQ : Hid (V.heap[q]? = some (.cells #[.int .i64 y.k, .string (str y.nm), .string (str y.to), .string (str y.s)] 104 (0, 0))) := by rw [← hq]; exact hQ
      have HFV : Hid (Fr w V (fun j => j = b)) := HF.out.trans (Fr.ofBelow bV _) (fun _ _ h => h)
      have hS1 := HS1.out V bV
      have HQB : Hid (q ≠ b) := fun e => by have := HM.out.lt; omega
      rw [hq]
      obtain ⟨x0, x1, x2, x3⟩ := box4 HQ.out
      clear hQ bV hV hq z0 z1 z2 z3 HS1
      go_upto_region 7 with (go_at_call 58; refine hS1.mono ?_; rintro r w7 ⟨rfl, m7, f7⟩; have HM7 : Hid (FMap w7 b (secF y.nm A.now ((L.take k).foldl (secS A.now) A.sure))) := m7; have HF7 : Hid (Fr V w7 (fun k => k = b)) := f7; clear m7 f7)
      have q7 := (HF7.out.block q (lt_blk HQ.out) HQB.out).trans HQ.out
      obtain ⟨v0, v1, v2, v3⟩ := box4 q7
      have HF8 : Hid (Fr w w7 (fun j => j = b)) := HFV.out.trans HF7.out (fun _ _ h => h)
      clear q7 x0 x1 x2 x3
      have hk6 : k ≤ 1000000 := by have := HLt.out; omega
      by_cases hk2 : y.k = 2
      · have hS2 := HS2.out w7 HF8.out HM7.out
        have HYy : Hid ((L.take (k + 1)).foldl (secS A.now) A.sure = secF y.to A.now (secF y.nm A.now ((L.take k).foldl (secS A.now) A.sure))) := by
          show _ = _
          rw [HY.out]
          unfold secS
          rw [if_pos hk2]
        have hkb : (y.k == 2) = true := by simpa using hk2
        clear hk2
        go_wp2_with (go_at_call 58; refine hS2.mono ?_; rintro r w9 ⟨rfl, m9, f9⟩; have HM9 : Hid _ := m9; have HF9 : Hid (Fr w7 w9 (fun k => k = b)) := f9; clear m9 f9)
        go_roundw
        case rel => exact ⟨k + 1, HLt.out, by go_num, by rw [HYy.out]; exact HM9.out, HF8.out.trans HF9.out (fun _ _ h => h)⟩
        case measure => have := HLt.out; simp [intOf]; omega
      · have HYy : Hid ((L.take (k + 1)).foldl (secS A.now) A.sure = secF y.nm A.now ((L.take k).foldl (secS A.now) A.sure)) := by
          show _ = _
          rw [HY.out]
          unfold secS
          rw [if_neg hk2]
        have hkb : (y.k == 2) = false := by simpa using hk2
        clear hk2
        go_wp2
        go_roundw
        case rel => exact ⟨k + 1, HLt.out, by go_num, by rw [HYy.out]; exact HM7.out, HF8.out⟩
        case measure => have := HLt.out; simp [intOf]; omega
    · obtain rfl : k = n0 := by omega
      have hm := HM.out
      rw [List.take_of_length_le (by have := HN0.out; omega), HNow.out] at hm
      have HE := HEnd.out wr HF.out hm
      have HEE : Hid _ := HE
      have e2 := fr_cellD HF.out hpb c2
      have g2 : wr.frozen? ⟨p, 2, none⟩ = false := by
        have hpl := lt_cellD c2
        have := HF.out.block p hpl hpb
        unfold World.frozen? at f2 ⊢
        rw [this]
        exact f2
      clear hm HE
      go_wp2
      go_ret
      exact ⟨rfl, ⟨_, _, _, HEE.out.1⟩, HEE.out.2⟩
theorem sync_any {A : Dk} {B : Nat} {mn ms : Option Nat} {lv : Value} (h : DA w B p A mn ms lv) (hd : A.dead = false) (hlen : A.sure.length + A.loose.length ≤ 1000000) : Calls Try.prog 28 #[.pointer (some ⟨p, 0, none⟩)] w fun r w' => r = .returned (.int .i64 0) ∧ DkAt w' B p A.sync ∧ FrD B w w' := by
  rcases h.two with ⟨rfl, rfl, _⟩ | ⟨a, b, rfl, rfl, _⟩
  · exact sync_nil h hd
  · exact sync_some h hd hlen
end
end Go.Proofs.Ytdapapnkmicklaa
