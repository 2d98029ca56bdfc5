import Derived.Test.YtidghoipmggklaaGreatSsInsM
import Derived.Test.YtidghoipmggklaaGreatSsDoWM
import Derived.Test.YtidghoipmggklaaGreatOrdLM
section
/- A job is submitted to a master that has none, and begins: its row, its course. -/
namespace Go.Proofs.YtidghoipmggklaaGreat
open Go.RowKit Go.Maps
attribute [local go_sem] Oper.semAt_some
/-- No aggregate. -/
def agZ : List Value := [.bool false, .bool false, .bool false, .bool false, .bool false, .int .i64 0, .int .i64 0, .int .i64 0, .int .i64 0, .int .i64 0]
/-- A course that has just begun, or is new. -/
def crCells (id ep st ph : Int) (av hv : Value) : List Value := [.int .i64 id, .int .i64 ep, .int .i64 st, .int .i64 ph, av, hv] ++ agZ ++ agZ ++ [.int .i64 0, .int .i64 0, .int .i64 0] ++ agZ
/-- A job's cells: its spec, its state, no outcome. -/
def jbCells (sp : List Value) (st : Int) : List Value := sp ++ [.int .i64 st, .int .i64 0, .int .i64 0, .int .i64 0, .slice none 0 0]
theorem first1_any (t g ps st se pa k e s vs : Value) (x : Int) (w : World) : Calls Tryz.prog 215 #[.agg #[t, g, ps, st, se, pa, .int .i64 x, k, e, s, vs]] w fun r w' => r = .returned (.bool (x == 1)) ∧ Below w.heap.size w w' := by
  have h0 := heap_alloc_new w (.cells #[t, g, ps, st, se, pa, .int .i64 x, k, e, s, vs] 170)
  obtain ⟨W, hW⟩ : ∃ W, w.alloc (.cells #[t, g, ps, st, se, pa, .int .i64 x, k, e, s, vs] 170) = W := ⟨_, rfl⟩
  have hb : Below w.heap.size w W := by rw [← hW]; exact ma_new _ _
  rw [hW] at h0
  have c6 : W.cell? ⟨w.heap.size, 6, none⟩ = some (.int .i64 x) := by simp [World.cell?, h0]
  clear h0
  go_enter Tryz.func215, Tryz.ntmps215
  go_wp2
  go_ret
  exact ⟨rfl, hb⟩
/-- The row of one job in memory. -/
structure JbAt (w : World) (jb : Nat) (sp : List Value) (st : Int) : Prop where
  len : sp.length = 6
  row : ∃ cur, w.heap[jb]? = some (.cells cur 170 (0, 0)) ∧ 11 ≤ cur.size ∧ cur.toList.take 11 = jbCells sp st
theorem JbAt.cell {w : World} {jb : Nat} {sp : List Value} {st : Int} (h : JbAt w jb sp st) {i : Nat} (hi : i < 11) : w.cell? ⟨jb, i, none⟩ = (jbCells sp st)[i]? ∧ w.frozen? ⟨jb, i, none⟩ = false := by
  obtain ⟨cur, h1, h2, h3⟩ := h.row
  refine ⟨?_, by simp [World.frozen?, h1]⟩
  rw [← h3, List.getElem?_take, if_pos hi]
  simp [World.cell?, h1]
theorem JbAt.kept {w w' : World} {jb : Nat} {sp : List Value} {st : Int} {S : Nat → Prop} (h : JbAt w jb sp st) (f : Fr w w' S) (hs : ¬ S jb) : JbAt w' jb sp st := by
  obtain ⟨cur, h1, h2, h3⟩ := h.row
  exact ⟨h.len, cur, (f.block jb (ma_lt h1) hs).trans h1, h2, h3⟩
theorem JbAt.new {w w' : World} {jb : Nat} {sp : List Value} {st : Int} (h : JbAt w jb sp st) (hb : Below w.heap.size w w') : JbAt w' jb sp st := h.kept (Fr.ofBelow hb (fun _ => False)) (fun h => h)
theorem JbAt.lt {w : World} {jb : Nat} {sp : List Value} {st : Int} (h : JbAt w jb sp st) : jb < w.heap.size := by
  obtain ⟨cur, h1, _⟩ := h.row
  exact ma_lt h1
theorem JbAt.set {w : World} {jb : Nat} {sp : List Value} {st : Int} (h : JbAt w jb sp st) (x : Int) : JbAt (w.setCell ⟨jb, 6, none⟩ (.int .i64 x)) jb sp x := by
  obtain ⟨cur, h1, h2, h3⟩ := h.row
  refine ⟨h.len, cur.setIfInBounds 6 (.int .i64 x), ma_set _ h1, by simpa using h2, ?_⟩
  rw [Array.toList_setIfInBounds, List.take_set, h3]
  unfold jbCells
  rw [List.set_append_right _ _ (by rw [h.len]; decide), h.len]
  rfl
/-- Its cells, by their letters. -/
theorem JbAt.cells {w : World} {jb : Nat} {sp : List Value} {st : Int} (h : JbAt w jb sp st) : ∃ t g ps x y z, sp = [t, g, ps, x, y, z] ∧ w.cell? ⟨jb, 0, none⟩ = some t ∧ w.cell? ⟨jb, 1, none⟩ = some g ∧ w.cell? ⟨jb, 2, none⟩ = some ps ∧ w.cell? ⟨jb, 3, none⟩ = some x ∧ w.cell? ⟨jb, 4, none⟩ = some y ∧ w.cell? ⟨jb, 5, none⟩ = some z ∧ w.cell? ⟨jb, 6, none⟩ = some (.int .i64 st) ∧ w.cell? ⟨jb, 7, none⟩ = some (.int .i64 0) ∧ w.cell? ⟨jb, 8, none⟩ = some (.int .i64 0) ∧ w.cell? ⟨jb, 9, none⟩ = some (.int .i64 0) ∧ w.cell? ⟨jb, 10, none⟩ = some (.slice none 0 0) := by
  have hl := h.len
  match sp, hl with
  | [t, g, ps, x, y, z], _ =>
    exact ⟨t, g, ps, x, y, z, rfl, (h.cell (i := 0) (by decide)).1, (h.cell (i := 1) (by decide)).1, (h.cell (i := 2) (by decide)).1, (h.cell (i := 3) (by decide)).1, (h.cell (i := 4) (by decide)).1, (h.cell (i := 5) (by decide)).1, (h.cell (i := 6) (by decide)).1, (h.cell (i := 7) (by decide)).1, (h.cell (i := 8) (by decide)).1, (h.cell (i := 9) (by decide)).1, (h.cell (i := 10) (by decide)).1⟩
set_option maxRecDepth 100000 in
set_option maxHeartbeats 1000000 in
theorem index_one {w : World} {jb jc : Nat} {sp : List Value} (h : JbAt w jb sp 1) : Calls Tryz.prog 214 #[.slice (some ⟨jb, 0, none⟩) 1 jc, .func (.func 215) #[] #[]] w fun r w' => r = .returned (.int .i64 0) ∧ Below w.heap.size w w' := by
  obtain ⟨t, g, ps, x, y, z, rfl, c0, c1, c2, c3, c4, c5, c6, c7, c8, c9, c10⟩ := h.cells
  clear h
  go_enter Tryz.func214, Tryz.ntmps214
  go_wp2
  go_loopw [5, 8] (fun _ i wr => i = .int .i64 0 ∧ wr = w) (fun _ _ _ => 0)
  case atStart => exact ⟨rfl, rfl⟩
  case round =>
    obtain ⟨rfl, rfl⟩ := hrel
    go_wp2_with (go_at_call 215; refine (first1_any _ _ _ _ _ _ _ _ _ _ _ _).mono ?_; rintro r w1 ⟨rfl, hb1⟩)
    go_ret
    exact ⟨rfl, hb1⟩
end Go.Proofs.YtidghoipmggklaaGreat
end

section
/- first, enter and begin of a master whose one job is Queued. -/
namespace Go.Proofs.YtidghoipmggklaaGreat
open Go.RowKit Go.Maps
attribute [local go_sem] Oper.semAt_some
theorem ma_calm {P : Program} {c : Code} {Q : Exit → Act → World → Prop} {a : Act} {w : World} (h : c.wp P (Exit.then (fun a w => Q .normal a w) (fun _ _ _ => False)) a w) : c.wp P Q a w := Code.wp_mono (fun e a w h => by cases e <;> first | exact h | exact h.elim) h
theorem ma_ltc {w : World} {b o : Nat} {u : Value} (h : w.cell? ⟨b, o, none⟩ = some u) : b < w.heap.size := by
  unfold World.cell? at h
  cases h2 : w.heap[b]? with
  | none => simp [h2] at h
  | some o => exact ma_lt h2
theorem ma_frc {w w' : World} {S : Nat → Prop} (f : Fr w w' S) {b o : Nat} {u : Value} (hb : ¬ S b) (h : w.cell? ⟨b, o, none⟩ = some u) : w'.cell? ⟨b, o, none⟩ = some u := by
  have := f.block b (ma_ltc h) hb
  unfold World.cell? at h ⊢
  rw [this]
  exact h
set_option maxRecDepth 100000 in
set_option maxHeartbeats 1000000 in
theorem mfirst_one {w : World} {p jb jc : Nat} {ax : Value} {mb : Option Nat} {ep : Int} {M : List Pz} {sp : List Value} (h : MaBox w p ax mb (.slice (some ⟨jb, 0, none⟩) 1 jc) ep (.pointer none) M) (hj : JbAt w jb sp 1) : Calls Tryz.prog 175 #[.pointer (some ⟨p, 0, none⟩)] w fun r w' => ∃ q, r = .returned (.pointer (some ⟨q, 0, none⟩)) ∧ JbAt w' jb sp 2 ∧ w'.heap[q]? = some (.cells (crCells 1 0 0 0 (.slice none 0 0) (.map none)).toArray 166 (0, 0)) ∧ w.heap.size ≤ q ∧ Fr w w' (fun k => k = jb) := by
  have HA : Hid (MaBox w p ax mb (.slice (some ⟨jb, 0, none⟩) 1 jc) ep (.pointer none) M) := h
  have HJ : Hid (JbAt w jb sp 1) := hj
  have hI := index_one (jc := jc) hj
  obtain ⟨-, -, c2, -, -⟩ := h.c
  clear h hj
  go_enter Tryz.func175, Tryz.ntmps175
  go_upto_region 4 with (go_at_call 214; refine hI.mono ?_; rintro r w1 ⟨rfl, hb1⟩)
  have HJ1 : Hid (JbAt w1 jb sp 1) := HJ.out.new hb1
  have HB1 : Hid (Below w.heap.size w w1) := hb1
  have d2 := (hb1.cell (ma_ltc c2)).trans c2
  obtain ⟨-, f6⟩ := HJ1.out.cell (i := 6) (by decide)
  obtain ⟨t, g, ps, x, y, z, hsp, -, -, -, -, -, -, e6, -⟩ := HJ1.out.cells
  clear hI hb1 c2 hsp
  go_upto_region 5 with (fail)
  generalize hW2 : World.setCell _ _ _ = W2
  have HJ2 : Hid (JbAt W2 jb sp 2) := by rw [← hW2]; exact HJ1.out.set 2
  have HF2 : Hid (Fr w1 W2 (fun k => k = jb)) := by rw [← hW2]; exact Fr.setCell (S := fun k => k = jb) _ _ _ rfl
  clear hW2 d2 e6 f6
  go_wp2
  go_ret
  have hn := heap_alloc_new W2 (.cells (crCells 1 0 0 0 (.slice none 0 0) (.map none)).toArray 166)
  have hb := ma_new W2 (.cells (crCells 1 0 0 0 (.slice none 0 0) (.map none)).toArray 166)
  refine ⟨_, rfl, HJ2.out.new hb, hn, ?_, ?_⟩
  · exact Nat.le_trans HB1.out.size HF2.out.size
  · exact ((Fr.ofBelow HB1.out (fun k => k = jb)).trans HF2.out (fun _ _ h => h)).trans (Fr.ofBelow hb (fun k => k = jb)) (fun _ _ h => h)
set_option maxRecDepth 100000 in
set_option maxHeartbeats 1000000 in
theorem menter {w : World} {q : Nat} {id ep st ph : Int} {av hv : Value} (h : w.heap[q]? = some (.cells (crCells id ep st 0 av hv).toArray 166 (0, 0))) : Calls Tryz.prog 182 #[.pointer (some ⟨q, 0, none⟩), .int .i64 ph] w fun r w' => r = .returned (.tuple #[]) ∧ ∃ hb, w'.heap[q]? = some (.cells (crCells id ep st ph av (.map (some hb))).toArray 166 (0, 0)) ∧ w'.heap[hb]? = some (.map #[] 0) ∧ w.heap.size ≤ hb ∧ Fr w w' (fun k => k = q) := by
  obtain ⟨W1, hW1⟩ : ∃ W1, w.alloc (.map #[] 0) = W1 := ⟨_, rfl⟩
  have b1 : Below w.heap.size w W1 := by rw [← hW1]; exact ma_new _ _
  have m1 : W1.heap[w.heap.size]? = some (.map #[] 0) := by rw [← hW1]; exact heap_alloc_new _ _
  have h1 := (b1.block q (ma_lt h)).trans h
  have c3 : W1.cell? ⟨q, 3, none⟩ = some (.int .i64 0) := by simp [World.cell?, h1, crCells]
  have c5 : W1.cell? ⟨q, 5, none⟩ = some hv := by simp [World.cell?, h1, crCells]
  have f3 : ∀ i, W1.frozen? ⟨q, i, none⟩ = false := fun i => by simp [World.frozen?, h1]
  have f3' := f3 3
  have f5 := f3 5
  have hqn : q < w.heap.size := ma_lt h
  have HH : Hid (W1.heap[q]? = some (.cells (crCells id ep st 0 av hv).toArray 166 (0, 0))) := h1
  have HM : Hid (W1.heap[w.heap.size]? = some (.map #[] 0)) := m1
  have HB : Hid (Below w.heap.size w W1) := b1
  have hmm := @run_makeMap Tryz.prog
  clear h h1 m1 b1 f3
  go_enter Tryz.func182, Tryz.ntmps182
  go_wp2
  go_end0
  refine ⟨rfl, w.heap.size, ?_, ?_, Nat.le_refl _, ?_⟩
  · exact ma_set (.map (some w.heap.size)) (ma_set (.int .i64 ph) HH.out)
  · have f := (Fr.setCell (S := fun k => k = q) W1 ⟨q, 3, none⟩ (.int .i64 ph) rfl).trans (Fr.setCell (S := fun k => k = q) _ ⟨q, 5, none⟩ (.map (some w.heap.size)) rfl) (fun _ _ h => h)
    exact (f.block w.heap.size (ma_lt HM.out) (fun e => by omega)).trans HM.out
  · have f := (Fr.setCell (S := fun k => k = q) W1 ⟨q, 3, none⟩ (.int .i64 ph) rfl).trans (Fr.setCell (S := fun k => k = q) _ ⟨q, 5, none⟩ (.map (some w.heap.size)) rfl) (fun _ _ h => h)
    exact (Fr.ofBelow HB.out (fun k => k = q)).trans f (fun _ _ h => h)
end Go.Proofs.YtidghoipmggklaaGreat
end

section
/- begin of a master whose one job is Running, in a new course. -/
namespace Go.Proofs.YtidghoipmggklaaGreat
open Go.RowKit Go.Maps
attribute [local go_sem] Oper.semAt_some
theorem ma_same {w : World} {g : Nat} {cs : Array Value} {t : TypeId} (i : Nat) (v : Value) (h : w.heap[g]? = some (.cells cs t (0, 0))) (hv : cs[i]? = some v) : (w.setCell ⟨g, i, none⟩ v).heap[g]? = some (.cells cs t (0, 0)) := by
  rw [ma_set v h]
  congr 2
  apply Array.ext
  · simp
  · intro j h1 h2
    rw [Array.getElem_setIfInBounds]
    split
    · rename_i e
      subst e
      rw [Array.getElem?_eq_getElem h2] at hv
      exact (Option.some.inj hv).symm
    · rfl
theorem sT2 {w : World} {p q jb jc : Nat} {ax cr : Value} {mb : Option Nat} {ep e : Int} {M : List Pz} {t g ps x y : Value} {pa st ph : Int} {av hv : Value} {s : Int} (hA : MaBox w p ax mb (.slice (some ⟨jb, 0, none⟩) 1 jc) ep cr M) (hJ : JbAt w jb [t, g, ps, x, y, .int .i64 pa] s) (hC : w.heap[q]? = some (.cells (crCells 1 e st ph av hv).toArray 166 (0, 0))) : (fun w' : World => w'.cell? ⟨p, 2, none⟩ = some (.slice (some ⟨jb, 0, none⟩) 1 jc) ∧ w'.cell? ⟨q, 0, none⟩ = some (.int .i64 1) ∧ w'.cell? ⟨jb, 5, none⟩ = some (.int .i64 pa)) w := by
  obtain ⟨-, -, c2, -, -⟩ := hA.c
  refine ⟨c2, by simp [World.cell?, hC, crCells], ?_⟩
  exact (hJ.cell (i := 5) (by decide)).1
set_option linter.unusedSimpArgs false in
set_option maxRecDepth 100000 in
set_option maxHeartbeats 400000 in
theorem mbegin {w : World} {p q jb jc : Nat} {ax : Value} {mb : Option Nat} {ep : Int} {M : List Pz} {t g ps x y : Value} {pa : Int} (h : MaBox w p ax mb (.slice (some ⟨jb, 0, none⟩) 1 jc) ep (.pointer (some ⟨q, 0, none⟩)) M) (hj : JbAt w jb [t, g, ps, x, y, .int .i64 pa] 2) (hc : w.heap[q]? = some (.cells (crCells 1 0 0 0 (.slice none 0 0) (.map none)).toArray 166 (0, 0))) (hpq : p ≠ q) (hjp : jb ≠ p) (hjq : jb ≠ q) (hmq : mb ≠ some q) (he : 0 ≤ ep ∧ ep ≤ 1000) (hl : M.length ≤ 999999) :
    Calls Tryz.prog 176 #[.pointer (some ⟨p, 0, none⟩), .pointer (some ⟨q, 0, none⟩)] w fun r w' => r = .returned (.tuple #[]) ∧ ∃ av hb, MaBox w' p ax mb (.slice (some ⟨jb, 0, none⟩) 1 jc) (ep + 1) (.pointer (some ⟨q, 0, none⟩)) M ∧ JbAt w' jb [t, g, ps, x, y, .int .i64 pa] 2 ∧ w'.heap[q]? = some (.cells (crCells 1 (ep + 1) 0 1 av (.map (some hb))).toArray 166 (0, 0)) ∧ w'.heap[hb]? = some (.map #[] 0) ∧ w.heap.size ≤ hb ∧ IO_ w' w.heap.size av (asgn pa (risL (M.map (·.k)))) ∧ Fr w w' (fun k => k = p ∨ k = q) := by
  have HA : Hid (MaBox w p ax mb (.slice (some ⟨jb, 0, none⟩) 1 jc) ep (.pointer (some ⟨q, 0, none⟩)) M) := h
  have HJ : Hid (JbAt w jb [t, g, ps, x, y, .int .i64 pa] 2) := hj
  have HC : Hid (w.heap[q]? = some (.cells (crCells 1 0 0 0 (.slice none 0 0) (.map none)).toArray 166 (0, 0))) := hc
  have HPq : Hid (p ≠ q) := hpq
  have HJp : Hid (jb ≠ p) := hjp
  have HJq : Hid (jb ≠ q) := hjq
  have HMq : Hid (mb ≠ some q) := hmq
  have HL : Hid (M.length ≤ 1000000) := by show _ ≤ _; omega
  have HLr : Hid ((risL (M.map (·.k))).length * 8 ≤ 140737488355328) := by
    have h1 := risL_len (M.map (·.k))
    rw [List.length_map] at h1
    show _ ≤ _
    omega
  obtain ⟨-, -, -, c3, -⟩ := h.c
  have f3 := h.f 3
  have hw : wrap64 (ep + 1) = ep + 1 := by unfold wrap64; omega
  have hw2 : IntKind.i64.wrap (ep + 1) = ep + 1 := IntWalk.i64_in _ (by omega)
  have hw0 : IntKind.i64.wrap 0 = 0 := by decide
  clear h hj hc
  go_enter Tryz.func176, Tryz.ntmps176
  go_upto_region 1 with (fail)
  try rw [hw]
  generalize hW1 : World.setCell _ _ _ = W1
  have HA1 : Hid (MaBox W1 p ax mb (.slice (some ⟨jb, 0, none⟩) 1 jc) (ep + 1) (.pointer (some ⟨q, 0, none⟩)) M) := by
    rw [← hW1]
    exact ⟨ma_set (.int .i64 (ep + 1)) HA.out.box, HA.out.wk.kept (Fr.setCell (S := fun k => k = p) _ _ _ rfl) (fun b hb => HA.out.ne b hb), HA.out.ne⟩
  have HF1 : Hid (Fr w W1 (fun k => k = p)) := by rw [← hW1]; exact Fr.setCell (S := fun k => k = p) _ _ _ rfl
  have HJ1 : Hid (JbAt W1 jb [t, g, ps, x, y, .int .i64 pa] 2) := HJ.out.kept HF1.out HJp.out
  have HC1 : Hid (W1.heap[q]? = some (.cells (crCells 1 0 0 0 (.slice none 0 0) (.map none)).toArray 166 (0, 0))) := (HF1.out.block q (ma_lt HC.out) (fun e => HPq.out e.symm)).trans HC.out
  clear hW1 c3 f3 hw hw2
  obtain ⟨-, -, -, c3, -⟩ := HA1.out.c
  obtain ⟨Wd, hWd⟩ : ∃ Wd, World.drew W1 = Wd := ⟨_, rfl⟩
  have bd : Below W1.heap.size W1 Wd := by rw [← hWd]; exact ((Below.refl _ W1).drew)
  have hbWd := (bd.block q (ma_lt HC1.out)).trans HC1.out
  have hpWd := (bd.cell (ma_ltc c3)).trans c3
  have hS0 : (fun w' : World => w'.cell? ⟨p, 3, none⟩ = some (.int .i64 (ep + 1)) ∧ w'.cell? ⟨q, 27, none⟩ = some (.int .i64 0) ∧ w'.cell? ⟨q, 29, none⟩ = some (.bool false) ∧ w'.cell? ⟨q, 30, none⟩ = some (.bool false) ∧ w'.cell? ⟨q, 31, none⟩ = some (.bool false) ∧ w'.cell? ⟨q, 32, none⟩ = some (.bool false) ∧ w'.cell? ⟨q, 33, none⟩ = some (.bool false) ∧ w'.cell? ⟨q, 34, none⟩ = some (.int .i64 0) ∧ w'.cell? ⟨q, 35, none⟩ = some (.int .i64 0) ∧ w'.cell? ⟨q, 36, none⟩ = some (.int .i64 0) ∧ w'.cell? ⟨q, 37, none⟩ = some (.int .i64 0) ∧ w'.cell? ⟨q, 38, none⟩ = some (.int .i64 0)) Wd := ⟨hpWd, (by simp [World.cell?, hbWd, crCells, agZ]), (by simp [World.cell?, hbWd, crCells, agZ]), (by simp [World.cell?, hbWd, crCells, agZ]), (by simp [World.cell?, hbWd, crCells, agZ]), (by simp [World.cell?, hbWd, crCells, agZ]), (by simp [World.cell?, hbWd, crCells, agZ]), (by simp [World.cell?, hbWd, crCells, agZ]), (by simp [World.cell?, hbWd, crCells, agZ]), (by simp [World.cell?, hbWd, crCells, agZ]), (by simp [World.cell?, hbWd, crCells, agZ]), (by simp [World.cell?, hbWd, crCells, agZ])⟩
  refine ma_calm ?_
  refine wp_region_L [] (fun w' : World => w'.cell? ⟨p, 3, none⟩ = some (.int .i64 (ep + 1)) ∧ w'.cell? ⟨q, 27, none⟩ = some (.int .i64 0) ∧ w'.cell? ⟨q, 29, none⟩ = some (.bool false) ∧ w'.cell? ⟨q, 30, none⟩ = some (.bool false) ∧ w'.cell? ⟨q, 31, none⟩ = some (.bool false) ∧ w'.cell? ⟨q, 32, none⟩ = some (.bool false) ∧ w'.cell? ⟨q, 33, none⟩ = some (.bool false) ∧ w'.cell? ⟨q, 34, none⟩ = some (.int .i64 0) ∧ w'.cell? ⟨q, 35, none⟩ = some (.int .i64 0) ∧ w'.cell? ⟨q, 36, none⟩ = some (.int .i64 0) ∧ w'.cell? ⟨q, 37, none⟩ = some (.int .i64 0) ∧ w'.cell? ⟨q, 38, none⟩ = some (.int .i64 0)) (by kernel_rfl) ?_
  rw [hWd]
  clear hWd c3
  refine wpAnyL_take (i := 0) 11 (v := .pointer (some ⟨q, 0, none⟩)) rfl rfl (by kernel_rfl) (by kernel_rfl) (by kernel_rfl) (by kernel_rfl) (by kernel_rfl) (by kernel_rfl) (fun _ _ _ h => h) hS0 (by rfl) (by intro w' hSw; obtain ⟨y0, y1, y2, y3, y4, y5, y6, y7, y8, y9, y10, y11⟩ := hSw; go_simp <;> with_reducible rfl) ?_
  simp only [Act.put, List.setIfInBounds_toArray, List.set_cons_zero, List.set_cons_succ]
  refine wpAnyL_take (i := 1) 12 (v := .pointer (some ⟨q, 0, none⟩)) rfl rfl (by kernel_rfl) (by kernel_rfl) (by kernel_rfl) (by kernel_rfl) (by kernel_rfl) (by kernel_rfl) (fun _ _ _ h => h) hS0 (by rfl) (by intro w' hSw; obtain ⟨y0, y1, y2, y3, y4, y5, y6, y7, y8, y9, y10, y11⟩ := hSw; go_simp <;> with_reducible rfl) ?_
  simp only [Act.put, List.setIfInBounds_toArray, List.set_cons_zero, List.set_cons_succ]
  refine wpAnyL_take (i := 2) 13 (v := .pointer (some ⟨q, 0, none⟩)) rfl rfl (by kernel_rfl) (by kernel_rfl) (by kernel_rfl) (by kernel_rfl) (by kernel_rfl) (by kernel_rfl) (fun _ _ _ h => h) hS0 (by rfl) (by intro w' hSw; obtain ⟨y0, y1, y2, y3, y4, y5, y6, y7, y8, y9, y10, y11⟩ := hSw; go_simp <;> with_reducible rfl) ?_
  simp only [Act.put, List.setIfInBounds_toArray, List.set_cons_zero, List.set_cons_succ]
  refine wpAnyL_take (i := 3) 14 (v := .pointer (some ⟨p, 0, none⟩)) rfl rfl (by kernel_rfl) (by kernel_rfl) (by kernel_rfl) (by kernel_rfl) (by kernel_rfl) (by kernel_rfl) (fun _ _ _ h => h) hS0 (by rfl) (by intro w' hSw; obtain ⟨y0, y1, y2, y3, y4, y5, y6, y7, y8, y9, y10, y11⟩ := hSw; go_simp <;> with_reducible rfl) ?_
  simp only [Act.put, List.setIfInBounds_toArray, List.set_cons_zero, List.set_cons_succ]
  refine wpAnyL_take (i := 4) 15 (v := .pointer (some ⟨p, 0, none⟩)) rfl rfl (by kernel_rfl) (by kernel_rfl) (by kernel_rfl) (by kernel_rfl) (by kernel_rfl) (by kernel_rfl) (fun _ _ _ h => h) hS0 (by rfl) (by intro w' hSw; obtain ⟨y0, y1, y2, y3, y4, y5, y6, y7, y8, y9, y10, y11⟩ := hSw; go_simp <;> with_reducible rfl) ?_
  simp only [Act.put, List.setIfInBounds_toArray, List.set_cons_zero, List.set_cons_succ]
  refine wpAnyL_take (i := 5) 16 (v := .pointer (some ⟨p, 3, none⟩)) rfl rfl (by kernel_rfl) (by kernel_rfl) (by kernel_rfl) (by kernel_rfl) (by kernel_rfl) (by kernel_rfl) (fun _ _ _ h => h) hS0 (by rfl) (by intro w' hSw; obtain ⟨y0, y1, y2, y3, y4, y5, y6, y7, y8, y9, y10, y11⟩ := hSw; go_simp <;> with_reducible rfl) ?_
  simp only [Act.put, List.setIfInBounds_toArray, List.set_cons_zero, List.set_cons_succ]
  refine wpAnyL_take (i := 6) 17 (v := .int .i64 (ep + 1)) rfl rfl (by kernel_rfl) (by kernel_rfl) (by kernel_rfl) (by kernel_rfl) (by kernel_rfl) (by kernel_rfl) (fun _ _ _ h => h) hS0 (by rfl) (by intro w' hSw; obtain ⟨y0, y1, y2, y3, y4, y5, y6, y7, y8, y9, y10, y11⟩ := hSw; go_simp <;> with_reducible rfl) ?_
  simp only [Act.put, List.setIfInBounds_toArray, List.set_cons_zero, List.set_cons_succ]
  refine wpAnyL_take (i := 7) 18 (v := .pointer (some ⟨q, 0, none⟩)) rfl rfl (by kernel_rfl) (by kernel_rfl) (by kernel_rfl) (by kernel_rfl) (by kernel_rfl) (by kernel_rfl) (fun _ _ _ h => h) hS0 (by rfl) (by intro w' hSw; obtain ⟨y0, y1, y2, y3, y4, y5, y6, y7, y8, y9, y10, y11⟩ := hSw; go_simp <;> with_reducible rfl) ?_
  simp only [Act.put, List.setIfInBounds_toArray, List.set_cons_zero, List.set_cons_succ]
  refine wpAnyL_take (i := 8) 19 (v := .pointer (some ⟨q, 0, none⟩)) rfl rfl (by kernel_rfl) (by kernel_rfl) (by kernel_rfl) (by kernel_rfl) (by kernel_rfl) (by kernel_rfl) (fun _ _ _ h => h) hS0 (by rfl) (by intro w' hSw; obtain ⟨y0, y1, y2, y3, y4, y5, y6, y7, y8, y9, y10, y11⟩ := hSw; go_simp <;> with_reducible rfl) ?_
  simp only [Act.put, List.setIfInBounds_toArray, List.set_cons_zero, List.set_cons_succ]
  refine wpAnyL_take (i := 9) 20 (v := .pointer (some ⟨q, 27, none⟩)) rfl rfl (by kernel_rfl) (by kernel_rfl) (by kernel_rfl) (by kernel_rfl) (by kernel_rfl) (by kernel_rfl) (fun _ _ _ h => h) hS0 (by rfl) (by intro w' hSw; obtain ⟨y0, y1, y2, y3, y4, y5, y6, y7, y8, y9, y10, y11⟩ := hSw; go_simp <;> with_reducible rfl) ?_
  simp only [Act.put, List.setIfInBounds_toArray, List.set_cons_zero, List.set_cons_succ]
  refine wpAnyL_take (i := 10) 21 (v := .pointer (some ⟨q, 27, none⟩)) rfl rfl (by kernel_rfl) (by kernel_rfl) (by kernel_rfl) (by kernel_rfl) (by kernel_rfl) (by kernel_rfl) (fun _ _ _ h => h) hS0 (by rfl) (by intro w' hSw; obtain ⟨y0, y1, y2, y3, y4, y5, y6, y7, y8, y9, y10, y11⟩ := hSw; go_simp <;> with_reducible rfl) ?_
  simp only [Act.put, List.setIfInBounds_toArray, List.set_cons_zero, List.set_cons_succ]
  refine wpAnyL_take (i := 11) 22 (v := .int .i64 0) rfl rfl (by kernel_rfl) (by kernel_rfl) (by kernel_rfl) (by kernel_rfl) (by kernel_rfl) (by kernel_rfl) (fun _ _ _ h => h) hS0 (by rfl) (by intro w' hSw; obtain ⟨y0, y1, y2, y3, y4, y5, y6, y7, y8, y9, y10, y11⟩ := hSw; go_simp <;> with_reducible rfl) ?_
  simp only [Act.put, List.setIfInBounds_toArray, List.set_cons_zero, List.set_cons_succ]
  refine wpAnyL_take (i := 12) 23 (v := .pointer (some ⟨q, 0, none⟩)) rfl rfl (by kernel_rfl) (by kernel_rfl) (by kernel_rfl) (by kernel_rfl) (by kernel_rfl) (by kernel_rfl) (fun _ _ _ h => h) hS0 (by rfl) (by intro w' hSw; obtain ⟨y0, y1, y2, y3, y4, y5, y6, y7, y8, y9, y10, y11⟩ := hSw; go_simp <;> with_reducible rfl) ?_
  simp only [Act.put, List.setIfInBounds_toArray, List.set_cons_zero, List.set_cons_succ]
  refine wpAnyL_take (i := 13) 24 (v := .pointer (some ⟨q, 0, none⟩)) rfl rfl (by kernel_rfl) (by kernel_rfl) (by kernel_rfl) (by kernel_rfl) (by kernel_rfl) (by kernel_rfl) (fun _ _ _ h => h) hS0 (by rfl) (by intro w' hSw; obtain ⟨y0, y1, y2, y3, y4, y5, y6, y7, y8, y9, y10, y11⟩ := hSw; go_simp <;> with_reducible rfl) ?_
  simp only [Act.put, List.setIfInBounds_toArray, List.set_cons_zero, List.set_cons_succ]
  refine wpAnyL_take (i := 14) 25 (v := .pointer (some ⟨q, 27, none⟩)) rfl rfl (by kernel_rfl) (by kernel_rfl) (by kernel_rfl) (by kernel_rfl) (by kernel_rfl) (by kernel_rfl) (fun _ _ _ h => h) hS0 (by rfl) (by intro w' hSw; obtain ⟨y0, y1, y2, y3, y4, y5, y6, y7, y8, y9, y10, y11⟩ := hSw; go_simp <;> with_reducible rfl) ?_
  simp only [Act.put, List.setIfInBounds_toArray, List.set_cons_zero, List.set_cons_succ]
  refine wpAnyL_take (i := 15) 26 (v := .pointer (some ⟨q, 29, none⟩)) rfl rfl (by kernel_rfl) (by kernel_rfl) (by kernel_rfl) (by kernel_rfl) (by kernel_rfl) (by kernel_rfl) (fun _ _ _ h => h) hS0 (by rfl) (by intro w' hSw; obtain ⟨y0, y1, y2, y3, y4, y5, y6, y7, y8, y9, y10, y11⟩ := hSw; go_simp <;> with_reducible rfl) ?_
  simp only [Act.put, List.setIfInBounds_toArray, List.set_cons_zero, List.set_cons_succ]
  refine wpAnyL_take (i := 16) 27 (v := .agg #[.bool false, .bool false, .bool false, .bool false, .bool false, .int .i64 0, .int .i64 0, .int .i64 0, .int .i64 0, .int .i64 0]) rfl rfl (by kernel_rfl) (by kernel_rfl) (by kernel_rfl) (by kernel_rfl) (by kernel_rfl) (by kernel_rfl) (fun _ _ _ h => h) hS0 (by rfl) (by intro w' hSw; obtain ⟨y0, y1, y2, y3, y4, y5, y6, y7, y8, y9, y10, y11⟩ := hSw; go_simp <;> with_reducible rfl) ?_
  simp only [Act.put, List.setIfInBounds_toArray, List.set_cons_zero, List.set_cons_succ]
  refine wpAnyL_take (i := 17) 28 (v := .pointer (some ⟨q, 0, none⟩)) rfl rfl (by kernel_rfl) (by kernel_rfl) (by kernel_rfl) (by kernel_rfl) (by kernel_rfl) (by kernel_rfl) (fun _ _ _ h => h) hS0 (by rfl) (by intro w' hSw; obtain ⟨y0, y1, y2, y3, y4, y5, y6, y7, y8, y9, y10, y11⟩ := hSw; go_simp <;> with_reducible rfl) ?_
  simp only [Act.put, List.setIfInBounds_toArray, List.set_cons_zero, List.set_cons_succ]
  refine wpAnyL_take (i := 18) 29 (v := .pointer (some ⟨q, 1, none⟩)) rfl rfl (by kernel_rfl) (by kernel_rfl) (by kernel_rfl) (by kernel_rfl) (by kernel_rfl) (by kernel_rfl) (fun _ _ _ h => h) hS0 (by rfl) (by intro w' hSw; obtain ⟨y0, y1, y2, y3, y4, y5, y6, y7, y8, y9, y10, y11⟩ := hSw; go_simp <;> with_reducible rfl) ?_
  simp only [Act.put, List.setIfInBounds_toArray, List.set_cons_zero, List.set_cons_succ]
  have k1 : Wd.cell? ⟨q, 1, none⟩ = some (.int .i64 0) := by simp [World.cell?, hbWd, crCells, agZ]
  have l1 : Wd.frozen? ⟨q, 1, none⟩ = false := by simp [World.frozen?, hbWd]
  refine wpAnyL_one (i := 19) (by kernel_rfl) rfl (fun Ka hKa => ?_)
  go_simp
  generalize hX : World.setCell _ _ _ = Wa
  have hbWa : Wa.heap[q]? = some (.cells (crCells 1 (ep + 1) 0 0 (.slice none 0 0) (.map none)).toArray 166 (0, 0)) := by
    rw [← hX]
    exact ma_set (.int .i64 (ep + 1)) hbWd
  have fWa : Fr Wd Wa (fun k => k = q) := by
    rw [← hX]
    exact Fr.setCell (S := fun k => k = q) _ _ _ rfl
  have hpWa := ma_frc fWa HPq.out hpWd
  clear k1 l1
  clear hX
  have hS1 : (fun w' : World => w'.cell? ⟨p, 3, none⟩ = some (.int .i64 (ep + 1)) ∧ w'.cell? ⟨q, 27, none⟩ = some (.int .i64 0) ∧ w'.cell? ⟨q, 29, none⟩ = some (.bool false) ∧ w'.cell? ⟨q, 30, none⟩ = some (.bool false) ∧ w'.cell? ⟨q, 31, none⟩ = some (.bool false) ∧ w'.cell? ⟨q, 32, none⟩ = some (.bool false) ∧ w'.cell? ⟨q, 33, none⟩ = some (.bool false) ∧ w'.cell? ⟨q, 34, none⟩ = some (.int .i64 0) ∧ w'.cell? ⟨q, 35, none⟩ = some (.int .i64 0) ∧ w'.cell? ⟨q, 36, none⟩ = some (.int .i64 0) ∧ w'.cell? ⟨q, 37, none⟩ = some (.int .i64 0) ∧ w'.cell? ⟨q, 38, none⟩ = some (.int .i64 0)) Wa := ⟨hpWa, (by simp [World.cell?, hbWa, crCells, agZ]), (by simp [World.cell?, hbWa, crCells, agZ]), (by simp [World.cell?, hbWa, crCells, agZ]), (by simp [World.cell?, hbWa, crCells, agZ]), (by simp [World.cell?, hbWa, crCells, agZ]), (by simp [World.cell?, hbWa, crCells, agZ]), (by simp [World.cell?, hbWa, crCells, agZ]), (by simp [World.cell?, hbWa, crCells, agZ]), (by simp [World.cell?, hbWa, crCells, agZ]), (by simp [World.cell?, hbWa, crCells, agZ]), (by simp [World.cell?, hbWa, crCells, agZ])⟩
  refine hKa.out _ _ (fun _ => hS1) ?_
  clear hKa Ka
  try simp only [Act.put, List.setIfInBounds_toArray, List.set_cons_zero, List.set_cons_succ]
  refine wpAnyL_take (i := 20) 30 (v := .pointer (some ⟨q, 0, none⟩)) rfl rfl (by kernel_rfl) (by kernel_rfl) (by kernel_rfl) (by kernel_rfl) (by kernel_rfl) (by kernel_rfl) (fun _ _ _ h => h) hS1 (by rfl) (by intro w' hSw; obtain ⟨y0, y1, y2, y3, y4, y5, y6, y7, y8, y9, y10, y11⟩ := hSw; go_simp <;> with_reducible rfl) ?_
  simp only [Act.put, List.setIfInBounds_toArray, List.set_cons_zero, List.set_cons_succ]
  refine wpAnyL_take (i := 21) 31 (v := .pointer (some ⟨q, 2, none⟩)) rfl rfl (by kernel_rfl) (by kernel_rfl) (by kernel_rfl) (by kernel_rfl) (by kernel_rfl) (by kernel_rfl) (fun _ _ _ h => h) hS1 (by rfl) (by intro w' hSw; obtain ⟨y0, y1, y2, y3, y4, y5, y6, y7, y8, y9, y10, y11⟩ := hSw; go_simp <;> with_reducible rfl) ?_
  simp only [Act.put, List.setIfInBounds_toArray, List.set_cons_zero, List.set_cons_succ]
  have k2 : Wa.cell? ⟨q, 2, none⟩ = some (.int .i64 0) := by simp [World.cell?, hbWa, crCells, agZ]
  have l2 : Wa.frozen? ⟨q, 2, none⟩ = false := by simp [World.frozen?, hbWa]
  refine wpAnyL_one (i := 22) (by kernel_rfl) rfl (fun Ka hKa => ?_)
  go_simp
  generalize hX : World.setCell _ _ _ = Wb
  have hbWb : Wb.heap[q]? = some (.cells (crCells 1 (ep + 1) 0 0 (.slice none 0 0) (.map none)).toArray 166 (0, 0)) := by
    rw [← hX]
    exact ma_set (.int .i64 0) hbWa
  have fWb : Fr Wa Wb (fun k => k = q) := by
    rw [← hX]
    exact Fr.setCell (S := fun k => k = q) _ _ _ rfl
  have hpWb := ma_frc fWb HPq.out hpWa
  clear k2 l2
  clear hX
  have hS2 : (fun w' : World => w'.cell? ⟨p, 3, none⟩ = some (.int .i64 (ep + 1)) ∧ w'.cell? ⟨q, 27, none⟩ = some (.int .i64 0) ∧ w'.cell? ⟨q, 29, none⟩ = some (.bool false) ∧ w'.cell? ⟨q, 30, none⟩ = some (.bool false) ∧ w'.cell? ⟨q, 31, none⟩ = some (.bool false) ∧ w'.cell? ⟨q, 32, none⟩ = some (.bool false) ∧ w'.cell? ⟨q, 33, none⟩ = some (.bool false) ∧ w'.cell? ⟨q, 34, none⟩ = some (.int .i64 0) ∧ w'.cell? ⟨q, 35, none⟩ = some (.int .i64 0) ∧ w'.cell? ⟨q, 36, none⟩ = some (.int .i64 0) ∧ w'.cell? ⟨q, 37, none⟩ = some (.int .i64 0) ∧ w'.cell? ⟨q, 38, none⟩ = some (.int .i64 0)) Wb := ⟨hpWb, (by simp [World.cell?, hbWb, crCells, agZ]), (by simp [World.cell?, hbWb, crCells, agZ]), (by simp [World.cell?, hbWb, crCells, agZ]), (by simp [World.cell?, hbWb, crCells, agZ]), (by simp [World.cell?, hbWb, crCells, agZ]), (by simp [World.cell?, hbWb, crCells, agZ]), (by simp [World.cell?, hbWb, crCells, agZ]), (by simp [World.cell?, hbWb, crCells, agZ]), (by simp [World.cell?, hbWb, crCells, agZ]), (by simp [World.cell?, hbWb, crCells, agZ]), (by simp [World.cell?, hbWb, crCells, agZ])⟩
  refine hKa.out _ _ (fun _ => hS2) ?_
  clear hKa Ka
  try simp only [Act.put, List.setIfInBounds_toArray, List.set_cons_zero, List.set_cons_succ]
  refine wpAnyL_take (i := 23) 32 (v := .pointer (some ⟨q, 0, none⟩)) rfl rfl (by kernel_rfl) (by kernel_rfl) (by kernel_rfl) (by kernel_rfl) (by kernel_rfl) (by kernel_rfl) (fun _ _ _ h => h) hS2 (by rfl) (by intro w' hSw; obtain ⟨y0, y1, y2, y3, y4, y5, y6, y7, y8, y9, y10, y11⟩ := hSw; go_simp <;> with_reducible rfl) ?_
  simp only [Act.put, List.setIfInBounds_toArray, List.set_cons_zero, List.set_cons_succ]
  refine wpAnyL_take (i := 24) 33 (v := .pointer (some ⟨q, 6, none⟩)) rfl rfl (by kernel_rfl) (by kernel_rfl) (by kernel_rfl) (by kernel_rfl) (by kernel_rfl) (by kernel_rfl) (fun _ _ _ h => h) hS2 (by rfl) (by intro w' hSw; obtain ⟨y0, y1, y2, y3, y4, y5, y6, y7, y8, y9, y10, y11⟩ := hSw; go_simp <;> with_reducible rfl) ?_
  simp only [Act.put, List.setIfInBounds_toArray, List.set_cons_zero, List.set_cons_succ]
  have k6 : Wb.cell? ⟨q, 6, none⟩ = some (.bool false) := by simp [World.cell?, hbWb, crCells, agZ]
  have l6 : Wb.frozen? ⟨q, 6, none⟩ = false := by simp [World.frozen?, hbWb]
  have k7 : Wb.cell? ⟨q, 7, none⟩ = some (.bool false) := by simp [World.cell?, hbWb, crCells, agZ]
  have l7 : Wb.frozen? ⟨q, 7, none⟩ = false := by simp [World.frozen?, hbWb]
  have k8 : Wb.cell? ⟨q, 8, none⟩ = some (.bool false) := by simp [World.cell?, hbWb, crCells, agZ]
  have l8 : Wb.frozen? ⟨q, 8, none⟩ = false := by simp [World.frozen?, hbWb]
  have k9 : Wb.cell? ⟨q, 9, none⟩ = some (.bool false) := by simp [World.cell?, hbWb, crCells, agZ]
  have l9 : Wb.frozen? ⟨q, 9, none⟩ = false := by simp [World.frozen?, hbWb]
  have k10 : Wb.cell? ⟨q, 10, none⟩ = some (.bool false) := by simp [World.cell?, hbWb, crCells, agZ]
  have l10 : Wb.frozen? ⟨q, 10, none⟩ = false := by simp [World.frozen?, hbWb]
  have k11 : Wb.cell? ⟨q, 11, none⟩ = some (.int .i64 0) := by simp [World.cell?, hbWb, crCells, agZ]
  have l11 : Wb.frozen? ⟨q, 11, none⟩ = false := by simp [World.frozen?, hbWb]
  have k12 : Wb.cell? ⟨q, 12, none⟩ = some (.int .i64 0) := by simp [World.cell?, hbWb, crCells, agZ]
  have l12 : Wb.frozen? ⟨q, 12, none⟩ = false := by simp [World.frozen?, hbWb]
  have k13 : Wb.cell? ⟨q, 13, none⟩ = some (.int .i64 0) := by simp [World.cell?, hbWb, crCells, agZ]
  have l13 : Wb.frozen? ⟨q, 13, none⟩ = false := by simp [World.frozen?, hbWb]
  have k14 : Wb.cell? ⟨q, 14, none⟩ = some (.int .i64 0) := by simp [World.cell?, hbWb, crCells, agZ]
  have l14 : Wb.frozen? ⟨q, 14, none⟩ = false := by simp [World.frozen?, hbWb]
  have k15 : Wb.cell? ⟨q, 15, none⟩ = some (.int .i64 0) := by simp [World.cell?, hbWb, crCells, agZ]
  have l15 : Wb.frozen? ⟨q, 15, none⟩ = false := by simp [World.frozen?, hbWb]
  refine wpAnyL_one (i := 25) (by kernel_rfl) rfl (fun Ka hKa => ?_)
  go_simp
  generalize hX : World.setCell _ _ _ = Wc
  have hbWc : Wc.heap[q]? = some (.cells (crCells 1 (ep + 1) 0 0 (.slice none 0 0) (.map none)).toArray 166 (0, 0)) := by
    rw [← hX]
    have s0 := hbWb
    have s1 := ma_same 6 (.bool false) s0 (by simp [crCells, agZ])
    have s2 := ma_same 7 (.bool false) s1 (by simp [crCells, agZ])
    have s3 := ma_same 8 (.bool false) s2 (by simp [crCells, agZ])
    have s4 := ma_same 9 (.bool false) s3 (by simp [crCells, agZ])
    have s5 := ma_same 10 (.bool false) s4 (by simp [crCells, agZ])
    have s6 := ma_same 11 (.int .i64 0) s5 (by simp [crCells, agZ])
    have s7 := ma_same 12 (.int .i64 0) s6 (by simp [crCells, agZ])
    have s8 := ma_same 13 (.int .i64 0) s7 (by simp [crCells, agZ])
    have s9 := ma_same 14 (.int .i64 0) s8 (by simp [crCells, agZ])
    have s10 := ma_same 15 (.int .i64 0) s9 (by simp [crCells, agZ])
    exact s10
  have fWc : Fr Wb Wc (fun k => k = q) := by
    rw [← hX]
    exact (((((((((Fr.setCell (S := fun k => k = q) _ _ _ rfl).trans (Fr.setCell (S := fun k => k = q) _ _ _ rfl) (fun _ _ h => h)).trans (Fr.setCell (S := fun k => k = q) _ _ _ rfl) (fun _ _ h => h)).trans (Fr.setCell (S := fun k => k = q) _ _ _ rfl) (fun _ _ h => h)).trans (Fr.setCell (S := fun k => k = q) _ _ _ rfl) (fun _ _ h => h)).trans (Fr.setCell (S := fun k => k = q) _ _ _ rfl) (fun _ _ h => h)).trans (Fr.setCell (S := fun k => k = q) _ _ _ rfl) (fun _ _ h => h)).trans (Fr.setCell (S := fun k => k = q) _ _ _ rfl) (fun _ _ h => h)).trans (Fr.setCell (S := fun k => k = q) _ _ _ rfl) (fun _ _ h => h)).trans (Fr.setCell (S := fun k => k = q) _ _ _ rfl) (fun _ _ h => h)
  have hpWc := ma_frc fWc HPq.out hpWb
  clear k6 l6 k7 l7 k8 l8 k9 l9 k10 l10 k11 l11 k12 l12 k13 l13 k14 l14 k15 l15
  clear hX
  have hS3 : (fun w' : World => w'.cell? ⟨p, 3, none⟩ = some (.int .i64 (ep + 1)) ∧ w'.cell? ⟨q, 27, none⟩ = some (.int .i64 0) ∧ w'.cell? ⟨q, 29, none⟩ = some (.bool false) ∧ w'.cell? ⟨q, 30, none⟩ = some (.bool false) ∧ w'.cell? ⟨q, 31, none⟩ = some (.bool false) ∧ w'.cell? ⟨q, 32, none⟩ = some (.bool false) ∧ w'.cell? ⟨q, 33, none⟩ = some (.bool false) ∧ w'.cell? ⟨q, 34, none⟩ = some (.int .i64 0) ∧ w'.cell? ⟨q, 35, none⟩ = some (.int .i64 0) ∧ w'.cell? ⟨q, 36, none⟩ = some (.int .i64 0) ∧ w'.cell? ⟨q, 37, none⟩ = some (.int .i64 0) ∧ w'.cell? ⟨q, 38, none⟩ = some (.int .i64 0)) Wc := ⟨hpWc, (by simp [World.cell?, hbWc, crCells, agZ]), (by simp [World.cell?, hbWc, crCells, agZ]), (by simp [World.cell?, hbWc, crCells, agZ]), (by simp [World.cell?, hbWc, crCells, agZ]), (by simp [World.cell?, hbWc, crCells, agZ]), (by simp [World.cell?, hbWc, crCells, agZ]), (by simp [World.cell?, hbWc, crCells, agZ]), (by simp [World.cell?, hbWc, crCells, agZ]), (by simp [World.cell?, hbWc, crCells, agZ]), (by simp [World.cell?, hbWc, crCells, agZ]), (by simp [World.cell?, hbWc, crCells, agZ])⟩
  refine hKa.out _ _ (fun _ => hS3) ?_
  clear hKa Ka
  try simp only [Act.put, List.setIfInBounds_toArray, List.set_cons_zero, List.set_cons_succ]
  refine wpAnyL_done (by kernel_rfl) ?_ _
  have HFc : Hid (Fr w Wc (fun k => k = p ∨ k = q)) := by
    have f := ((Fr.ofBelow bd (fun k => k = q)).trans fWa (fun _ _ h => h)).trans (fWb.trans fWc (fun _ _ h => h)) (fun _ _ h => h)
    exact (HF1.out.mono (fun k _ hk => .inl hk)).trans f (fun k _ hk => .inr hk)
  have f1c : Fr W1 Wc (fun k => k = q) := ((Fr.ofBelow bd (fun k => k = q)).trans fWa (fun _ _ h => h)).trans (fWb.trans fWc (fun _ _ h => h)) (fun _ _ h => h)
  have HAc : Hid (MaBox Wc p ax mb (.slice (some ⟨jb, 0, none⟩) 1 jc) (ep + 1) (.pointer (some ⟨q, 0, none⟩)) M) := HA1.out.kept f1c HPq.out (fun b hb e => HMq.out (by rw [hb, e]))
  have HJc : Hid (JbAt Wc jb [t, g, ps, x, y, .int .i64 pa] 2) := HJ1.out.kept f1c HJq.out
  have HCc : Hid (Wc.heap[q]? = some (.cells (crCells 1 (ep + 1) 0 0 (.slice none 0 0) (.map none)).toArray 166 (0, 0))) := hbWc
  clear hS0 hS1 hS2 hS3 hbWd hpWd hbWa hpWa hbWb hpWb hbWc hpWc fWa fWb fWc f1c bd
  go_upto_region 2 with (fail)
  obtain ⟨We, hWe⟩ : ∃ We, World.drew Wc = We := ⟨_, rfl⟩
  have be : Below Wc.heap.size Wc We := by rw [← hWe]; exact ((Below.refl _ Wc).drew)
  have HAe : Hid (MaBox We p ax mb (.slice (some ⟨jb, 0, none⟩) 1 jc) (ep + 1) (.pointer (some ⟨q, 0, none⟩)) M) := HAc.out.new be
  have HJe : Hid (JbAt We jb [t, g, ps, x, y, .int .i64 pa] 2) := HJc.out.new be
  have HCe : Hid (We.heap[q]? = some (.cells (crCells 1 (ep + 1) 0 0 (.slice none 0 0) (.map none)).toArray 166 (0, 0))) := (be.block q (ma_lt HCc.out)).trans HCc.out
  have HFe : Hid (Fr w We (fun k => k = p ∨ k = q)) := HFc.out.trans (Fr.ofBelow be (fun k => k = p ∨ k = q)) (fun _ _ h => h)
  have hT0 : (fun w' : World => w'.cell? ⟨p, 2, none⟩ = some (.slice (some ⟨jb, 0, none⟩) 1 jc) ∧ w'.cell? ⟨q, 0, none⟩ = some (.int .i64 1) ∧ w'.cell? ⟨jb, 5, none⟩ = some (.int .i64 pa)) We := sT2 HAe.out HJe.out HCe.out
  refine ma_calm ?_
  refine wp_region_L [19] (fun w' : World => w'.cell? ⟨p, 2, none⟩ = some (.slice (some ⟨jb, 0, none⟩) 1 jc) ∧ w'.cell? ⟨q, 0, none⟩ = some (.int .i64 1) ∧ w'.cell? ⟨jb, 5, none⟩ = some (.int .i64 pa)) (by kernel_rfl) ?_
  rw [hWe]
  clear hWe be
  refine wpAnyL_take (i := 0) 34 (v := .pointer (some ⟨q, 0, none⟩)) rfl rfl (by kernel_rfl) (by kernel_rfl) (by kernel_rfl) (by kernel_rfl) (by kernel_rfl) (by kernel_rfl) (fun _ _ _ h => h) hT0 (by rfl) (by intro w' hSw; obtain ⟨y0, y1, y2⟩ := hSw; go_simp <;> with_reducible rfl) ?_
  simp only [Act.put, List.setIfInBounds_toArray, List.set_cons_zero, List.set_cons_succ]
  refine wpAnyL_take (i := 1) 35 (v := .pointer (some ⟨p, 0, none⟩)) rfl rfl (by kernel_rfl) (by kernel_rfl) (by kernel_rfl) (by kernel_rfl) (by kernel_rfl) (by kernel_rfl) (fun _ _ _ h => h) hT0 (by rfl) (by intro w' hSw; obtain ⟨y0, y1, y2⟩ := hSw; go_simp <;> with_reducible rfl) ?_
  simp only [Act.put, List.setIfInBounds_toArray, List.set_cons_zero, List.set_cons_succ]
  refine wpAnyL_take (i := 2) 36 (v := .pointer (some ⟨p, 0, none⟩)) rfl rfl (by kernel_rfl) (by kernel_rfl) (by kernel_rfl) (by kernel_rfl) (by kernel_rfl) (by kernel_rfl) (fun _ _ _ h => h) hT0 (by rfl) (by intro w' hSw; obtain ⟨y0, y1, y2⟩ := hSw; go_simp <;> with_reducible rfl) ?_
  simp only [Act.put, List.setIfInBounds_toArray, List.set_cons_zero, List.set_cons_succ]
  refine wpAnyL_take (i := 3) 37 (v := .pointer (some ⟨p, 2, none⟩)) rfl rfl (by kernel_rfl) (by kernel_rfl) (by kernel_rfl) (by kernel_rfl) (by kernel_rfl) (by kernel_rfl) (fun _ _ _ h => h) hT0 (by rfl) (by intro w' hSw; obtain ⟨y0, y1, y2⟩ := hSw; go_simp <;> with_reducible rfl) ?_
  simp only [Act.put, List.setIfInBounds_toArray, List.set_cons_zero, List.set_cons_succ]
  refine wpAnyL_take (i := 4) 38 (v := .slice (some ⟨jb, 0, none⟩) 1 jc) rfl rfl (by kernel_rfl) (by kernel_rfl) (by kernel_rfl) (by kernel_rfl) (by kernel_rfl) (by kernel_rfl) (fun _ _ _ h => h) hT0 (by rfl) (by intro w' hSw; obtain ⟨y0, y1, y2⟩ := hSw; go_simp <;> with_reducible rfl) ?_
  simp only [Act.put, List.setIfInBounds_toArray, List.set_cons_zero, List.set_cons_succ]
  refine wpAnyL_take (i := 5) 39 (v := .pointer (some ⟨q, 0, none⟩)) rfl rfl (by kernel_rfl) (by kernel_rfl) (by kernel_rfl) (by kernel_rfl) (by kernel_rfl) (by kernel_rfl) (fun _ _ _ h => h) hT0 (by rfl) (by intro w' hSw; obtain ⟨y0, y1, y2⟩ := hSw; go_simp <;> with_reducible rfl) ?_
  simp only [Act.put, List.setIfInBounds_toArray, List.set_cons_zero, List.set_cons_succ]
  refine wpAnyL_take (i := 6) 40 (v := .pointer (some ⟨q, 0, none⟩)) rfl rfl (by kernel_rfl) (by kernel_rfl) (by kernel_rfl) (by kernel_rfl) (by kernel_rfl) (by kernel_rfl) (fun _ _ _ h => h) hT0 (by rfl) (by intro w' hSw; obtain ⟨y0, y1, y2⟩ := hSw; go_simp <;> with_reducible rfl) ?_
  simp only [Act.put, List.setIfInBounds_toArray, List.set_cons_zero, List.set_cons_succ]
  refine wpAnyL_take (i := 7) 41 (v := .pointer (some ⟨q, 0, none⟩)) rfl rfl (by kernel_rfl) (by kernel_rfl) (by kernel_rfl) (by kernel_rfl) (by kernel_rfl) (by kernel_rfl) (fun _ _ _ h => h) hT0 (by rfl) (by intro w' hSw; obtain ⟨y0, y1, y2⟩ := hSw; go_simp <;> with_reducible rfl) ?_
  simp only [Act.put, List.setIfInBounds_toArray, List.set_cons_zero, List.set_cons_succ]
  refine wpAnyL_take (i := 8) 42 (v := .int .i64 1) rfl rfl (by kernel_rfl) (by kernel_rfl) (by kernel_rfl) (by kernel_rfl) (by kernel_rfl) (by kernel_rfl) (fun _ _ _ h => h) hT0 (by rfl) (by intro w' hSw; obtain ⟨y0, y1, y2⟩ := hSw; go_simp <;> with_reducible rfl) ?_
  simp only [Act.put, List.setIfInBounds_toArray, List.set_cons_zero, List.set_cons_succ]
  refine wpAnyL_take (i := 9) 43 (v := .int .i64 0) rfl rfl (by kernel_rfl) (by kernel_rfl) (by kernel_rfl) (by kernel_rfl) (by kernel_rfl) (by kernel_rfl) (fun _ _ _ h => h) hT0 (by rfl) (by intro w' hSw; obtain ⟨y0, y1, y2⟩ := hSw; go_simp <;> with_reducible rfl) ?_
  simp only [Act.put, List.setIfInBounds_toArray, List.set_cons_zero, List.set_cons_succ]
  refine wpAnyL_take (i := 10) 44 (v := .pointer (some ⟨jb, 0, none⟩)) rfl rfl (by kernel_rfl) (by kernel_rfl) (by kernel_rfl) (by kernel_rfl) (by kernel_rfl) (by kernel_rfl) (fun _ _ _ h => h) hT0 (by rfl) (by intro w' hSw; obtain ⟨y0, y1, y2⟩ := hSw; go_simp <;> with_reducible rfl) ?_
  simp only [Act.put, List.setIfInBounds_toArray, List.set_cons_zero, List.set_cons_succ]
  refine wpAnyL_take (i := 11) 45 (v := .pointer (some ⟨jb, 0, none⟩)) rfl rfl (by kernel_rfl) (by kernel_rfl) (by kernel_rfl) (by kernel_rfl) (by kernel_rfl) (by kernel_rfl) (fun _ _ _ h => h) hT0 (by rfl) (by intro w' hSw; obtain ⟨y0, y1, y2⟩ := hSw; go_simp <;> with_reducible rfl) ?_
  simp only [Act.put, List.setIfInBounds_toArray, List.set_cons_zero, List.set_cons_succ]
  refine wpAnyL_take (i := 12) 46 (v := .pointer (some ⟨jb, 5, none⟩)) rfl rfl (by kernel_rfl) (by kernel_rfl) (by kernel_rfl) (by kernel_rfl) (by kernel_rfl) (by kernel_rfl) (fun _ _ _ h => h) hT0 (by rfl) (by intro w' hSw; obtain ⟨y0, y1, y2⟩ := hSw; go_simp <;> with_reducible rfl) ?_
  simp only [Act.put, List.setIfInBounds_toArray, List.set_cons_zero, List.set_cons_succ]
  refine wpAnyL_take (i := 13) 47 (v := .int .i64 pa) rfl rfl (by kernel_rfl) (by kernel_rfl) (by kernel_rfl) (by kernel_rfl) (by kernel_rfl) (by kernel_rfl) (fun _ _ _ h => h) hT0 (by rfl) (by intro w' hSw; obtain ⟨y0, y1, y2⟩ := hSw; go_simp <;> with_reducible rfl) ?_
  simp only [Act.put, List.setIfInBounds_toArray, List.set_cons_zero, List.set_cons_succ]
  refine wpAnyL_take (i := 14) 48 (v := .pointer (some ⟨p, 0, none⟩)) rfl rfl (by kernel_rfl) (by kernel_rfl) (by kernel_rfl) (by kernel_rfl) (by kernel_rfl) (by kernel_rfl) (fun _ _ _ h => h) hT0 (by rfl) (by intro w' hSw; obtain ⟨y0, y1, y2⟩ := hSw; go_simp <;> with_reducible rfl) ?_
  simp only [Act.put, List.setIfInBounds_toArray, List.set_cons_zero, List.set_cons_succ]
  refine wpAnyL_one (i := 15) (by kernel_rfl) rfl (fun Ka hKa => ?_)
  go_simp
  refine (mworkers HAe.out HL.out).mono ?_
  rintro r w5 ⟨v5, rfl, hv5, hb5⟩
  have HA5 : Hid (MaBox w5 p ax mb (.slice (some ⟨jb, 0, none⟩) 1 jc) (ep + 1) (.pointer (some ⟨q, 0, none⟩)) M) := HAe.out.new hb5
  have HJ5 : Hid (JbAt w5 jb [t, g, ps, x, y, .int .i64 pa] 2) := HJe.out.new hb5
  have HC5 : Hid (w5.heap[q]? = some (.cells (crCells 1 (ep + 1) 0 0 (.slice none 0 0) (.map none)).toArray 166 (0, 0))) := (hb5.block q (ma_lt HCe.out)).trans HCe.out
  have HF5 : Hid (Fr w w5 (fun k => k = p ∨ k = q)) := HFe.out.trans (Fr.ofBelow hb5 (fun k => k = p ∨ k = q)) (fun _ _ h => h)
  have hT1 : (fun w' : World => w'.cell? ⟨p, 2, none⟩ = some (.slice (some ⟨jb, 0, none⟩) 1 jc) ∧ w'.cell? ⟨q, 0, none⟩ = some (.int .i64 1) ∧ w'.cell? ⟨jb, 5, none⟩ = some (.int .i64 pa)) w5 := sT2 HA5.out HJ5.out HC5.out
  refine hKa.out _ _ (fun _ => hT1) ?_
  clear hKa Ka
  try simp only [Act.put, List.setIfInBounds_toArray, List.set_cons_zero, List.set_cons_succ]
  refine wpAnyL_one (i := 16) (by kernel_rfl) rfl (fun Ka hKa => ?_)
  go_simp
  refine (passign pa hv5.toS (HLr.out)).mono ?_
  rintro r w6 ⟨v6, rfl, hv6, hb6⟩
  obtain ⟨ao6, c6, hv6e, -, -⟩ := hv6.shape
  obtain ⟨n6, hn6⟩ : ∃ n6, (asgn pa (risL (M.map (·.k)))).length = n6 := ⟨_, rfl⟩
  rw [hn6] at hv6e
  subst hv6e
  clear hn6
  have HA6 : Hid (MaBox w6 p ax mb (.slice (some ⟨jb, 0, none⟩) 1 jc) (ep + 1) (.pointer (some ⟨q, 0, none⟩)) M) := HA5.out.new hb6
  have HJ6 : Hid (JbAt w6 jb [t, g, ps, x, y, .int .i64 pa] 2) := HJ5.out.new hb6
  have hb6q : w6.heap[q]? = some (.cells (crCells 1 (ep + 1) 0 0 (.slice none 0 0) (.map none)).toArray 166 (0, 0)) := (hb6.block q (ma_lt HC5.out)).trans HC5.out
  have HF6 : Hid (Fr w w6 (fun k => k = p ∨ k = q)) := HF5.out.trans (Fr.ofBelow hb6 (fun k => k = p ∨ k = q)) (fun _ _ h => h)
  have HV6 : Hid (IO_ w6 w5.heap.size (.slice ao6 n6 c6) (asgn pa (risL (M.map (·.k))))) := hv6
  have HZ6 : Hid (w.heap.size ≤ w5.heap.size) := HF5.out.size
  have hT2 : (fun w' : World => w'.cell? ⟨p, 2, none⟩ = some (.slice (some ⟨jb, 0, none⟩) 1 jc) ∧ w'.cell? ⟨q, 0, none⟩ = some (.int .i64 1) ∧ w'.cell? ⟨jb, 5, none⟩ = some (.int .i64 pa)) w6 := sT2 HA6.out HJ6.out hb6q
  refine hKa.out _ _ (fun _ => hT2) ?_
  clear hKa Ka
  try simp only [Act.put, List.setIfInBounds_toArray, List.set_cons_zero, List.set_cons_succ]
  refine wpAnyL_take (i := 17) 51 (v := .pointer (some ⟨q, 0, none⟩)) rfl rfl (by kernel_rfl) (by kernel_rfl) (by kernel_rfl) (by kernel_rfl) (by kernel_rfl) (by kernel_rfl) (fun _ _ _ h => h) hT2 (by rfl) (by intro w' hSw; obtain ⟨y0, y1, y2⟩ := hSw; go_simp <;> with_reducible rfl) ?_
  simp only [Act.put, List.setIfInBounds_toArray, List.set_cons_zero, List.set_cons_succ]
  refine wpAnyL_take (i := 18) 52 (v := .pointer (some ⟨q, 4, none⟩)) rfl rfl (by kernel_rfl) (by kernel_rfl) (by kernel_rfl) (by kernel_rfl) (by kernel_rfl) (by kernel_rfl) (fun _ _ _ h => h) hT2 (by rfl) (by intro w' hSw; obtain ⟨y0, y1, y2⟩ := hSw; go_simp <;> with_reducible rfl) ?_
  simp only [Act.put, List.setIfInBounds_toArray, List.set_cons_zero, List.set_cons_succ]
  have k4 : w6.cell? ⟨q, 4, none⟩ = some (.slice none 0 0) := by simp [World.cell?, hb6q, crCells, agZ]
  have l4 : w6.frozen? ⟨q, 4, none⟩ = false := by simp [World.frozen?, hb6q]
  refine wpAnyL_one (i := 19) (by kernel_rfl) rfl (fun Ka hKa => ?_)
  go_simp
  generalize hX : World.setCell _ _ _ = W7
  have HC7 : Hid (W7.heap[q]? = some (.cells (crCells 1 (ep + 1) 0 0 (.slice ao6 n6 c6) (.map none)).toArray 166 (0, 0))) := by
    show _ = _
    rw [← hX]
    exact ma_set (.slice ao6 n6 c6) hb6q
  have f7 : Fr w6 W7 (fun k => k = q) := by rw [← hX]; exact Fr.setCell (S := fun k => k = q) _ _ _ rfl
  refine hKa.out _ _ (fun h => absurd h (Bool.eq_false_iff.1 (by kernel_rfl))) ?_
  clear hKa Ka hX k4 l4
  try simp only [Act.put, List.setIfInBounds_toArray, List.set_cons_zero, List.set_cons_succ]
  refine wpAnyL_done (by kernel_rfl) ?_ _
  have HA7 : Hid (MaBox W7 p ax mb (.slice (some ⟨jb, 0, none⟩) 1 jc) (ep + 1) (.pointer (some ⟨q, 0, none⟩)) M) := HA6.out.kept f7 HPq.out (fun b hb e => HMq.out (by rw [hb, e]))
  have HJ7 : Hid (JbAt W7 jb [t, g, ps, x, y, .int .i64 pa] 2) := HJ6.out.kept f7 HJq.out
  have HV7 : Hid (IO_ W7 w5.heap.size (.slice ao6 n6 c6) (asgn pa (risL (M.map (·.k))))) := HV6.out.kept f7 (fun k hk e => by have h1 := (GO.lt HV6.out k hk).1; have := ma_lt HC5.out; omega)
  have HF7 : Hid (Fr w W7 (fun k => k = p ∨ k = q)) := HF6.out.trans f7 (fun k _ hk => .inr hk)
  have hEn := menter (ph := 1) HC7.out
  clear hT0 hT1 hT2 hb6q hv5 hv6 hb5 hb6 f7
  go_wp2_with (go_at_call 182; refine hEn.mono ?_; rintro r w8 ⟨rfl, hb, h1, h2, h3, h4⟩)
  go_end0
  refine ⟨rfl, .slice ao6 n6 c6, hb, HA7.out.kept h4 HPq.out (fun b hb e => HMq.out (by rw [hb, e])), HJ7.out.kept h4 HJq.out, h1, h2, Nat.le_trans HF7.out.size h3, ?_, HF7.out.trans h4 (fun k _ hk => .inr hk)⟩
  exact (HV7.out.kept h4 (fun k hk e => by have h1 := (GO.lt HV7.out k hk).1; have := ma_lt HC5.out; omega)).lower HZ6.out
end Go.Proofs.YtidghoipmggklaaGreat
end

section
/- goOn of a master whose one job is Queued: it begins. -/
namespace Go.Proofs.YtidghoipmggklaaGreat
open Go.RowKit Go.Maps
attribute [local go_sem] Oper.semAt_some
theorem mopen_none {w : World} {p : Nat} {ax cr : Value} {mb : Option Nat} {ep : Int} {M : List Pz} (h : MaBox w p ax mb (.slice none 0 0) ep cr M) : Calls Tryz.prog 31 #[.pointer (some ⟨p, 0, none⟩)] w fun r w' => r = .returned (.int .i64 0) ∧ w' = w := by
  obtain ⟨-, -, c2, -, -⟩ := h.c
  clear h
  go_enter Tryz.func31, Tryz.ntmps31
  go_wp2
  go_loopw [3, 5, 13] (fun n _ i wr => i = .int .i64 0 ∧ n = .int .i64 0 ∧ wr = w) (fun _ _ _ _ => 0)
  case atStart => exact ⟨rfl, rfl, rfl⟩
  case round =>
    obtain ⟨rfl, rfl, rfl⟩ := hrel
    go_wp2
    go_ret
    exact ⟨rfl, rfl⟩
theorem MaBox.mbc {w : World} {p : Nat} {ax js cr : Value} {mb : Option Nat} {ep : Int} {M : List Pz} (h : MaBox w p ax mb js ep cr M) {k : Nat} {cs : Array Value} {t : TypeId} {f : Nat × Nat} (hk : w.heap[k]? = some (.cells cs t f)) : mb ≠ some k := by
  intro e
  subst e
  obtain ⟨es, c, hm⟩ := WMap.isMap h.wk
  rw [hm] at hk
  cases hk
/-- What there is behind a job's beginning. -/
structure RunAt (w0 w : World) (p jb jc : Nat) (ax : Value) (mb : Option Nat) (ep : Int) (M : List Pz) (sp : List Value) (pa : Int) (q hb : Nat) (av : Value) : Prop where
  ma : MaBox w p ax mb (.slice (some ⟨jb, 0, none⟩) 1 jc) ep (.pointer (some ⟨q, 0, none⟩)) M
  jb : JbAt w jb sp 2
  cr : w.heap[q]? = some (.cells (crCells 1 ep 0 1 av (.map (some hb))).toArray 166 (0, 0))
  hd : w.heap[hb]? = some (.map #[] 0)
  lq : w0.heap.size ≤ q
  lh : w0.heap.size ≤ hb
  as_ : IO_ w w0.heap.size av (asgn pa (risL (M.map (·.k))))
set_option maxRecDepth 100000 in
set_option maxHeartbeats 2000000 in
theorem mgoon_one {w : World} {p jb jc : Nat} {ax : Value} {mb : Option Nat} {ep : Int} {M : List Pz} {t g ps x y : Value} {pa : Int} (h : MaBox w p ax mb (.slice (some ⟨jb, 0, none⟩) 1 jc) ep (.pointer none) M) (hj : JbAt w jb [t, g, ps, x, y, .int .i64 pa] 1) (he : 0 ≤ ep ∧ ep ≤ 1000) (h0 : 0 < M.length) (hl : M.length ≤ 999999) :
    Calls Tryz.prog 129 #[.pointer (some ⟨p, 0, none⟩)] w fun r w' => r = .returned (.tuple #[]) ∧ ∃ q hb av, RunAt w w' p jb jc ax mb (ep + 1) M [t, g, ps, x, y, .int .i64 pa] pa q hb av ∧ Fr w w' (fun k => k = p ∨ k = jb) := by
  have HA : Hid (MaBox w p ax mb (.slice (some ⟨jb, 0, none⟩) 1 jc) ep (.pointer none) M) := h
  have HE : Hid (0 ≤ ep ∧ ep ≤ 1000) := he
  have HL : Hid (M.length ≤ 999999) := hl
  have HJp : Hid (jb ≠ p) := fun e => by
    obtain ⟨cur, h1, _⟩ := hj.row
    have h2 := h.box
    rw [e, h2] at h1
    injection h1 with h1
    injection h1 with _ h1 _
    exact absurd h1 (by decide)
  have HMj : Hid (mb ≠ some jb) := by obtain ⟨cur, h1, _⟩ := hj.row; exact h.mbc h1
  have HMl : Hid (∀ b, mb = some b → b < w.heap.size) := fun b hb => by subst hb; exact WkAt.lt h.wk
  have hF := mfirst_one h hj
  have HPs : Hid (p < w.heap.size ∧ jb < w.heap.size) := ⟨h.lt, hj.lt⟩
  obtain ⟨-, c1, -, -, c4⟩ := h.c
  have hln := fun ty => wlen h.wk ty
  obtain ⟨n, hn⟩ : ∃ n, M.length = n + 1 := ⟨M.length - 1, by omega⟩
  rw [hn] at hln
  have hn0 : ¬ ((n : Int) + 1 = 0) := by omega
  clear h hj h0 hn he
  go_enter Tryz.func129, Tryz.ntmps129
  go_upto_region 2 with (fail)
  clear hln hn0 c1
  have hF2 : Calls Tryz.prog 175 #[.pointer (some ⟨p, 0, none⟩)] w fun r w' => ∃ q, r = .returned (.pointer (some ⟨q, 0, none⟩)) ∧ JbAt w' jb [t, g, ps, x, y, .int .i64 pa] 2 ∧ w'.heap[q]? = some (.cells (crCells 1 0 0 0 (.slice none 0 0) (.map none)).toArray 166 (0, 0)) ∧ w.heap.size ≤ q ∧ Fr w w' (fun k => k = jb) ∧ w'.cell? ⟨p, 4, none⟩ = some (.pointer none) ∧ w'.frozen? ⟨p, 4, none⟩ = false := by
    refine hF.mono ?_
    rintro r w' ⟨q, h1, h2, h3, h4, h5⟩
    have hA' := HA.out.kept h5 (fun e => HJp.out e.symm) (fun b hb e => HMj.out (by rw [hb, e]))
    exact ⟨q, h1, h2, h3, h4, h5, hA'.c.2.2.2.2, hA'.f 4⟩
  clear hF
  go_upto_region 3 with (go_at_call 175; refine hF2.mono ?_; rintro r w1 ⟨q, rfl, hj1, hc1, hq1, hf1, d4, e4⟩)
  have HJ1 : Hid (JbAt w1 jb [t, g, ps, x, y, .int .i64 pa] 2) := hj1
  have HC1 : Hid (w1.heap[q]? = some (.cells (crCells 1 0 0 0 (.slice none 0 0) (.map none)).toArray 166 (0, 0))) := hc1
  have HQ1 : Hid (w.heap.size ≤ q) := hq1
  have HF1 : Hid (Fr w w1 (fun k => k = jb)) := hf1
  have HA1 : Hid (MaBox w1 p ax mb (.slice (some ⟨jb, 0, none⟩) 1 jc) ep (.pointer none) M) := HA.out.kept hf1 (fun e => HJp.out e.symm) (fun b hb e => HMj.out (by rw [hb, e]))
  clear hj1 hc1 hq1 hf1 hF2 c4
  generalize hW2 : World.setCell _ _ _ = W2
  have HF2 : Hid (Fr w1 W2 (fun k => k = p)) := by rw [← hW2]; exact Fr.setCell (S := fun k => k = p) _ _ _ rfl
  have HA2 : Hid (MaBox W2 p ax mb (.slice (some ⟨jb, 0, none⟩) 1 jc) ep (.pointer (some ⟨q, 0, none⟩)) M) := ⟨by rw [← hW2]; exact ma_set (.pointer (some ⟨q, 0, none⟩)) HA1.out.box, HA1.out.wk.kept HF2.out (fun b hb => HA1.out.ne b hb), HA1.out.ne⟩
  have HPq : Hid (p ≠ q) := fun e => by have := HPs.out.1; have := HQ1.out; omega
  have HC2 : Hid (W2.heap[q]? = some (.cells (crCells 1 0 0 0 (.slice none 0 0) (.map none)).toArray 166 (0, 0))) := (HF2.out.block q (ma_lt HC1.out) (fun e => HPq.out e.symm)).trans HC1.out
  have HJ2 : Hid (JbAt W2 jb [t, g, ps, x, y, .int .i64 pa] 2) := HJ1.out.kept HF2.out HJp.out
  obtain ⟨-, -, -, -, c4⟩ := HA2.out.c
  have k4 : W2.cell? ⟨q, 4, none⟩ = some (.slice none 0 0) := by simp [World.cell?, HC2.out, crCells, agZ]
  have hBg := mbegin HA2.out HJ2.out HC2.out HPq.out HJp.out (fun e => by have := HPs.out.2; have := HQ1.out; omega) (fun e => by have := HMl.out q e; have := HQ1.out; omega) HE.out HL.out
  clear hW2 d4 e4
  go_wp2_with (go_at_call 176; refine hBg.mono ?_; rintro r w8 ⟨rfl, av, hb, g1, g2, g3, g4, g5, g6, g7⟩)
  go_end0
  have hsz : w.heap.size ≤ W2.heap.size := Nat.le_trans HF1.out.size HF2.out.size
  refine ⟨rfl, q, hb, av, ⟨g1, g2, g3, g4, HQ1.out, Nat.le_trans hsz g5, g6.lower hsz⟩, ?_⟩
  have f2 : Fr w W2 (fun k => k = p ∨ k = jb) := (HF1.out.mono (fun k _ hk => .inr hk)).trans HF2.out (fun k _ hk => .inl hk)
  refine f2.trans g7 (fun k hk e => ?_)
  rcases e with e | e
  · exact .inl e
  · have := HQ1.out; omega
end Go.Proofs.YtidghoipmggklaaGreat
end
