import Derived.Test.YtidghoipmggklaaGreatMaWkM
import Derived.Test.YtidghoipmggklaaGreatJbDecM
import Derived.Test.YtidghoipmggklaaGreatStrM
import Derived.Test.YtidghoipmggklaaGreatNumM
import Derived.Test.YtidghoipmggklaaGreatProg
import Derived.Maps.AppendAt
import Derived.WalkKit
import Derived.OwnWalk
import Derived.Below
import Derived.Laws.CopyRow
import Derived.Test.YtidghoipmggklaaGreatNumWM
import Derived.Test.YtidghoipmggklaaGreatWriterWM
import Derived.Test.YtidghoipmggklaaGreatChecked
import Derived.Deep.RegionLaw
import Derived.Lib.Overlaps
import Derived.Laws.Externs
section
/- Masters that have no job: Apply of who joins, and who is lost. -/
namespace Go.Proofs.YtidghoipmggklaaGreat
open Go.RowKit Go.Maps
attribute [local go_sem] Oper.semAt_some
theorem size_reply : (Tryz.prog.info? 62).map (·.size) = some 2 := by kernel_rfl
theorem ap_setRow (w : World) (g : Nat) (cs : Array Value) : Fr w (w.setRow g cs) (fun k => k = g) := ⟨rfl, rfl, rfl, by simp, fun k _ hn => setRow_other w g k cs hn⟩
/-- What a call on workers leaves: the master, others' blocks. -/
def PoJ (w w' : World) (p : Nat) (ax : Value) (mb : Option Nat) (ep : Int) (M' : List Pz) : Prop := ∃ mb', MaBox w' p ax mb' (.slice none 0 0) ep (.pointer none) M' ∧ Fr w w' (MaB p mb) ∧ ∀ b, mb' = some b → mb = some b ∨ w.heap.size ≤ b
theorem re_kept_join {w w' : World} {p g : Nat} {ax : Value} {mb : Option Nat} {ep : Int} {M' : List Pz} {o : Obj} (h : PoJ w w' p ax mb ep M') (hr : w.heap[g]? = some o) (hp : g ≠ p) (hb : ∀ b, mb = some b → b ≠ g) : w'.heap[g]? = some o := by
  obtain ⟨mb', h1, h2, h3⟩ := h
  refine (h2.block g (ma_lt hr) ?_).trans hr
  rintro (e | e)
  · exact hp e
  · exact hb g e rfl
theorem ap_end_join {w W w' : World} {p g : Nat} {ax : Value} {mb : Option Nat} {ep : Int} {M' : List Pz} (hB : Below w.heap.size w W) (h : PoJ W w' p ax mb ep M') (hp : p < w.heap.size) (_ : ∀ b, mb = some b → b < w.heap.size) (hg : w.heap.size ≤ g) (cs : Array Value) (hn : ∀ es c, w'.heap[g]? ≠ some (.map es c)) : PoJ w (w'.setRow g cs) p ax mb ep M' := by
  obtain ⟨mb', h1, h2, h3⟩ := h
  have f1 := ap_setRow w' g cs
  refine ⟨mb', h1.kept f1 (fun e => by omega) (fun b hb2 e => ?_), ((Fr.ofBelow hB (MaB p mb)).trans h2 (fun _ _ h => h)).trans f1 (fun k hk e => by omega), fun b hb2 => ?_⟩
  · subst e
    subst hb2
    obtain ⟨es, c, hm⟩ := WMap.isMap h1.wk
    exact hn es c hm
  · rcases h3 b hb2 with h | h
    · exact .inl h
    · exact .inr (Nat.le_trans hB.size h)
set_option maxRecDepth 100000 in
set_option maxHeartbeats 2000000 in
theorem mapply_join {w : World} {p : Nat} {ax : Value} {mb : Option Nat} {ep : Int} {M : List Pz} (h : MaBox w p ax mb (.slice none 0 0) ep (.pointer none) M) (hl : M.length ≤ 999999) {x l : Int} (hx : W6 x) (hl6 : W6 l) (q1 q2 q3 q4 r0 r1 r2 r3 r4 r5 r6 r7 r8 r9 r10 r11 r12 r13 r14 r15 r16 r17 r18 r19 : Value) :
    Calls Tryz.prog 21 #[.pointer (some ⟨p, 0, none⟩), .agg #[.int .i64 3, q1, q2, q3, q4, .int .i64 x, .int .i64 l, r0, r1, r2, r3, r4, r5, r6, r7, r8, r9, r10, r11, r12, r13, r14, r15, r16, r17, r18, r19]] w fun r w' => r = .returned (.tuple #[.agg #[.int .i64 0, .int .i64 0], .int .i64 0]) ∧ PoJ w w' p ax mb ep (joinP M x l) := by
  have HA : Hid (MaBox w p ax mb (.slice none 0 0) ep (.pointer none) M) := h
  have HC : Hid (∀ W, Below w.heap.size w W → Calls Tryz.prog 73 #[.pointer (some ⟨p, 0, none⟩), .int .i64 x, .int .i64 l] W fun r w' => r = .returned (.tuple #[]) ∧ PoJ W w' p ax mb ep (joinP M x l)) := fun W hb => mjoin_idle (h.new hb) hl hx hl6
  obtain ⟨W0, hW0⟩ : ∃ W0, w.alloc (.cells #[.pointer (some ⟨p, 0, none⟩)] 60) = W0 := ⟨_, rfl⟩
  obtain ⟨W1, hW1⟩ : ∃ W1, W0.alloc (.cells #[.int .i64 3, q1, q2, q3, q4, .int .i64 x, .int .i64 l, r0, r1, r2, r3, r4, r5, r6, r7, r8, r9, r10, r11, r12, r13, r14, r15, r16, r17, r18, r19] 59) = W1 := ⟨_, rfl⟩
  obtain ⟨W2, hW2⟩ : ∃ W2, W1.alloc (.cells #[.int .i64 0, .int .i64 0] 62) = W2 := ⟨_, rfl⟩
  have b0 : Below w.heap.size w W0 := by rw [← hW0]; exact ma_new _ _
  have b1 : Below W0.heap.size W0 W1 := by rw [← hW1]; exact ma_new _ _
  have b2 : Below W1.heap.size W1 W2 := by rw [← hW2]; exact ma_new _ _
  have s0 : W0.heap.size = w.heap.size + 1 := by rw [← hW0]; simp
  have s1 : W1.heap.size = w.heap.size + 2 := by rw [← hW1, World.size_alloc, s0]
  have k0 := heap_alloc_new w (.cells #[.pointer (some ⟨p, 0, none⟩)] 60)
  rw [hW0] at k0
  have k1 := heap_alloc_new W0 (.cells #[.int .i64 3, q1, q2, q3, q4, .int .i64 x, .int .i64 l, r0, r1, r2, r3, r4, r5, r6, r7, r8, r9, r10, r11, r12, r13, r14, r15, r16, r17, r18, r19] 59)
  rw [hW1] at k1
  have k2 := heap_alloc_new W1 (.cells #[.int .i64 0, .int .i64 0] 62)
  rw [hW2] at k2
  obtain ⟨gc, hgc⟩ : ∃ gc, W0.heap.size = gc := ⟨_, rfl⟩
  obtain ⟨gr, hgr⟩ : ∃ gr, W1.heap.size = gr := ⟨_, rfl⟩
  rw [hgc] at k1
  rw [hgr] at k2
  have HGr : Hid (gr = w.heap.size + 2) := by show _ = _; omega
  have k0' : W2.heap[w.heap.size]? = some (.cells #[.pointer (some ⟨p, 0, none⟩)] 60 (0, 0)) := (b2.block _ (by omega)).trans ((b1.block _ (by omega)).trans k0)
  have k1' : W2.heap[gc]? = some (.cells #[.int .i64 3, q1, q2, q3, q4, .int .i64 x, .int .i64 l, r0, r1, r2, r3, r4, r5, r6, r7, r8, r9, r10, r11, r12, r13, r14, r15, r16, r17, r18, r19] 59 (0, 0)) := (b2.block _ (by omega)).trans k1
  have c0 : W2.cell? ⟨w.heap.size, 0, none⟩ = some (.pointer (some ⟨p, 0, none⟩)) := by simp [World.cell?, k0']
  have c1 : W2.cell? ⟨gc, 0, none⟩ = some (.int .i64 3) := by simp [World.cell?, k1']
  have c5 : W2.cell? ⟨gc, 5, none⟩ = some (.int .i64 x) := by simp [World.cell?, k1']
  have c6 : W2.cell? ⟨gc, 6, none⟩ = some (.int .i64 l) := by simp [World.cell?, k1']
  have HB : Hid (Below w.heap.size w W2) := (b0.trans (b1.mono b0.size)).trans (b2.mono (by omega))
  have HRe : Hid (W2.heap[gr]? = some (.cells #[.int .i64 0, .int .i64 0] 62 (0, 0))) := k2
  have HLt : Hid (p < w.heap.size ∧ ∀ b, mb = some b → b < w.heap.size) := ⟨h.lt, fun b hb => by subst hb; exact WkAt.lt h.wk⟩
  have hC := HC.out W2 HB.out
  clear h b0 b1 b2 k0 k1 k2 k0' k1' s0 s1
  go_enter Tryz.func21, Tryz.ntmps21
  go_upto_region 1 with (fail)
  clear hW0 hW1 hW2 hgc hgr
  obtain ⟨g, hg⟩ : ∃ g, w.heap.size = g := ⟨_, rfl⟩
  have HG : Hid (w.heap.size = g) := hg
  rw [hg] at c0 ⊢
  clear hg
  go_wp2_with (first
    | (go_at_call 73; refine hC.mono ?_; rintro r w4 ⟨rfl, HPo⟩; have HPo2 : Hid _ := HPo; have HRe4 : Hid (w4.heap[gr]? = some (.cells #[.int .i64 0, .int .i64 0] 62 (0, 0))) := re_kept_join HPo HRe.out (by have := HLt.out.1; have := HGr.out; omega) (fun b hb => by have := HLt.out.2 b hb; have := HGr.out; omega); clear HPo)
    | (refine wpList_store_row rfl 62 _ _ rfl gr #[.int .i64 0, .int .i64 0] rfl rfl 62 #[.int .i64 0, .int .i64 0] HRe4.out size_reply rfl (by simp [Value.oneCell']) ?_))
  refine bodyPost_ret (v := .tuple #[.agg #[.int .i64 0, .int .i64 0], .int .i64 0]) (res_ctJ Tryz.results21 _ _ gr 62 _ (0, 0) _ rfl (setRow_heap _ _ _ _ _ _ HRe4.out) Tryz.underlying62 rfl size_reply) rfl ?_
  refine ⟨rfl, ap_end_join HB.out HPo2.out HLt.out.1 HLt.out.2 (by have := HGr.out; omega) _ (fun es c e => by rw [HRe4.out] at e; cases e)⟩
end Go.Proofs.YtidghoipmggklaaGreat
end

section
/- Sessions on plain data: rows sorted by sessions, where one stands, its last request, how one is put. -/
namespace Go.Proofs.YtidghoipmggklaaGreat
/-- A session's last request. -/
structure Req where
  k : Int
  n : Int
  s : ByteArray
/-- Sessions rise. -/
def RiseQ (L : List Req) : Prop := L.Pairwise (fun x y => x.k < y.k)
/-- How many stand ahead. -/
def posR (L : List Req) (k : Int) : Nat := L.countP (fun x => decide (x.k < k))
def isR (L : List Req) (k : Int) : Bool := match L[posR L k]? with | some x => decide (x.k = k) | none => false
def lastR (L : List Req) (k : Int) : Req := match L[posR L k]? with | some x => (if x.k = k then x else ⟨k, 0, str []⟩) | none => ⟨k, 0, str []⟩
def putR (L : List Req) (a : Req) : List Req := if isR L a.k = true then L.set (posR L a.k) a else L.take (posR L a.k) ++ a :: L.drop (posR L a.k)
theorem posR_le (L : List Req) (k : Int) : posR L k ≤ L.length := List.countP_le_length
theorem posR_all {L : List Req} {k : Int} (h : ∀ x ∈ L, x.k < k) : posR L k = L.length := List.countP_eq_length.2 fun x hx => by simpa using h x hx
theorem posR_none {L : List Req} {k : Int} (h : ∀ x ∈ L, ¬ x.k < k) : posR L k = 0 := List.countP_eq_zero.2 fun x hx => by simpa using h x hx
/-- A place that parts the row is where it stands. -/
theorem posR_at {A C : List Req} {k : Int} (hA : ∀ x ∈ A, x.k < k) (hC : ∀ x ∈ C, ¬ x.k < k) : posR (A ++ C) k = A.length := by
  unfold posR
  rw [List.countP_append]
  have h1 := posR_all hA
  have h2 := posR_none hC
  unfold posR at h1 h2
  omega
theorem posR_parts {L : List Req} (h : RiseQ L) (k : Int) : (∀ x ∈ L.take (posR L k), x.k < k) ∧ (∀ x ∈ L.drop (posR L k), ¬ x.k < k) := by
  induction L with
  | nil => exact ⟨fun x hx => by simp at hx, fun x hx => by simp at hx⟩
  | cons a r ih =>
    obtain ⟨h1, h2⟩ := List.pairwise_cons.1 h
    by_cases ha : a.k < k
    · have e : posR (a :: r) k = posR r k + 1 := by
        unfold posR
        rw [List.countP_cons_of_pos (by simpa using ha)]
      rw [e]
      obtain ⟨i1, i2⟩ := ih h2
      exact ⟨fun x hx => by
        rw [List.take_succ_cons, List.mem_cons] at hx
        rcases hx with rfl | hx
        · exact ha
        · exact i1 x hx, fun x hx => i2 x (by simpa using hx)⟩
    · have hn : ∀ x ∈ a :: r, ¬ x.k < k := fun x hx => by
        rcases List.mem_cons.1 hx with rfl | hx
        · exact ha
        · have := h1 x hx
          omega
      rw [posR_none hn]
      exact ⟨fun x hx => by simp at hx, fun x hx => hn x (by simpa using hx)⟩
/-- A row is parted by a session: those below, itself if it is there, those above. -/
theorem parts {L : List Req} (h : RiseQ L) (k : Int) : (∃ A a C, L = A ++ a :: C ∧ a.k = k ∧ (∀ x ∈ A, x.k < k) ∧ (∀ x ∈ C, k < x.k)) ∨ (∃ A C, L = A ++ C ∧ (∀ x ∈ A, x.k < k) ∧ (∀ x ∈ C, k < x.k)) := by
  obtain ⟨h1, h2⟩ := posR_parts h k
  have e : L = L.take (posR L k) ++ L.drop (posR L k) := (List.take_append_drop _ _).symm
  generalize L.take (posR L k) = A at e h1
  generalize L.drop (posR L k) = C at e h2
  subst e
  have hC : RiseQ C := (List.pairwise_append.1 h).2.1
  cases C with
  | nil => exact .inr ⟨A, [], rfl, h1, fun x hx => by simp at hx⟩
  | cons a C =>
    have ha := h2 a (by simp)
    have hc := (List.pairwise_cons.1 hC).1
    by_cases e : a.k = k
    · exact .inl ⟨A, a, C, rfl, e, h1, fun x hx => by have := hc x hx; omega⟩
    · refine .inr ⟨A, a :: C, rfl, h1, fun x hx => ?_⟩
      rcases List.mem_cons.1 hx with rfl | hx
      · omega
      · have := hc x hx
        omega
section
variable {A C : List Req} {a : Req} {k : Int}
theorem in_pos (hA : ∀ x ∈ A, x.k < a.k) (hC : ∀ x ∈ C, a.k < x.k) : posR (A ++ a :: C) a.k = A.length :=
  posR_at hA fun x hx => by
    rcases List.mem_cons.1 hx with rfl | hx
    · omega
    · have := hC x hx
      omega
theorem in_is (hA : ∀ x ∈ A, x.k < a.k) (hC : ∀ x ∈ C, a.k < x.k) : isR (A ++ a :: C) a.k = true := by
  unfold isR
  rw [in_pos hA hC, List.getElem?_append_right (Nat.le_refl _)]
  simp
theorem in_last (hA : ∀ x ∈ A, x.k < a.k) (hC : ∀ x ∈ C, a.k < x.k) : lastR (A ++ a :: C) a.k = a := by
  unfold lastR
  rw [in_pos hA hC, List.getElem?_append_right (Nat.le_refl _)]
  simp
theorem out_pos (hA : ∀ x ∈ A, x.k < k) (hC : ∀ x ∈ C, k < x.k) : posR (A ++ C) k = A.length :=
  posR_at hA fun x hx => by have := hC x hx; omega
theorem out_is (hA : ∀ x ∈ A, x.k < k) (hC : ∀ x ∈ C, k < x.k) : isR (A ++ C) k = false := by
  unfold isR
  rw [out_pos hA hC, List.getElem?_append_right (Nat.le_refl _)]
  cases C with
  | nil => simp
  | cons c r =>
    have := hC c (by simp)
    simp
    omega
theorem out_last (hA : ∀ x ∈ A, x.k < k) (hC : ∀ x ∈ C, k < x.k) : lastR (A ++ C) k = ⟨k, 0, str []⟩ := by
  unfold lastR
  rw [out_pos hA hC, List.getElem?_append_right (Nat.le_refl _)]
  cases C with
  | nil => simp
  | cons c r =>
    have := hC c (by simp)
    simp
    intro h
    omega
end
theorem in_put {A C : List Req} {a b : Req} (hb : b.k = a.k) (hA : ∀ x ∈ A, x.k < a.k) (hC : ∀ x ∈ C, a.k < x.k) : putR (A ++ a :: C) b = A ++ b :: C := by
  unfold putR
  rw [hb, in_is hA hC, in_pos hA hC]
  simp
theorem out_put {A C : List Req} {a : Req} (hA : ∀ x ∈ A, x.k < a.k) (hC : ∀ x ∈ C, a.k < x.k) : putR (A ++ C) a = A ++ a :: C := by
  unfold putR
  rw [out_is hA hC, out_pos hA hC]
  simp
/-- What is put, by parts: a row that holds it between those below and those above. -/
theorem put_parts {L : List Req} (h : RiseQ L) (a : Req) : ∃ A C, putR L a = A ++ a :: C ∧ (∀ x ∈ A, x.k < a.k) ∧ (∀ x ∈ C, a.k < x.k) ∧ RiseQ A ∧ RiseQ C ∧ (∀ x ∈ A, x ∈ L) ∧ (∀ x ∈ C, x ∈ L) := by
  rcases parts h a.k with ⟨A, b, C, rfl, e, hA, hC⟩ | ⟨A, C, rfl, hA, hC⟩
  · rw [← e] at hA hC
    refine ⟨A, C, in_put e.symm hA hC, e ▸ hA, e ▸ hC, (List.pairwise_append.1 h).1, (List.pairwise_cons.1 (List.pairwise_append.1 h).2.1).2, fun x hx => by simp [hx], fun x hx => by simp [hx]⟩
  · exact ⟨A, C, out_put hA hC, hA, hC, (List.pairwise_append.1 h).1, (List.pairwise_append.1 h).2.1, fun x hx => by simp [hx], fun x hx => by simp [hx]⟩
theorem rise_parts {A C : List Req} {a : Req} (h1 : RiseQ A) (h2 : RiseQ C) (hA : ∀ x ∈ A, x.k < a.k) (hC : ∀ x ∈ C, a.k < x.k) : RiseQ (A ++ a :: C) :=
  List.pairwise_append.2 ⟨h1, List.pairwise_cons.2 ⟨hC, h2⟩, fun x hx y hy => by
    have := hA x hx
    rcases List.mem_cons.1 hy with rfl | hy
    · exact this
    · have := hC y hy
      omega⟩
theorem put_rise {L : List Req} (h : RiseQ L) (a : Req) : RiseQ (putR L a) := by
  obtain ⟨A, C, e, hA, hC, h1, h2, _⟩ := put_parts h a
  rw [e]
  exact rise_parts h1 h2 hA hC
theorem put_mem {L : List Req} (h : RiseQ L) {a x : Req} (hx : x ∈ putR L a) : x = a ∨ x ∈ L := by
  obtain ⟨A, C, e, _, _, _, _, h3, h4⟩ := put_parts h a
  rw [e] at hx
  rcases List.mem_append.1 hx with hx | hx
  · exact .inr (h3 x hx)
  · rcases List.mem_cons.1 hx with rfl | hx
    · exact .inl rfl
    · exact .inr (h4 x hx)
theorem put_last {L : List Req} (h : RiseQ L) (a : Req) : lastR (putR L a) a.k = a := by
  obtain ⟨A, C, e, hA, hC, _⟩ := put_parts h a
  rw [e]
  exact in_last hA hC
theorem put_put {L : List Req} (h : RiseQ L) {a b : Req} (e : b.k = a.k) : putR (putR L a) b = putR L b := by
  rcases parts h a.k with ⟨A, c, C, rfl, ec, hA, hC⟩ | ⟨A, C, rfl, hA, hC⟩
  · rw [← ec] at hA hC
    rw [in_put ec.symm hA hC, in_put (e.trans ec.symm) hA hC, in_put e (ec ▸ hA) (ec ▸ hC)]
  · rw [out_put hA hC, in_put e hA hC, out_put (e ▸ hA) (e ▸ hC)]
theorem put_len (L : List Req) (a : Req) : (putR L a).length = L.length + (if isR L a.k = true then 0 else 1) := by
  have := posR_le L a.k
  unfold putR
  split
  · rw [List.length_set]
    omega
  · rw [List.length_append, List.length_take, List.length_cons, List.length_drop]
    omega
theorem is_last {L : List Req} (h : RiseQ L) (h1 : ∀ x ∈ L, 1 ≤ x.n) (k : Int) : isR L k = true ↔ (lastR L k).n ≠ 0 := by
  rcases parts h k with ⟨A, c, C, rfl, rfl, hA, hC⟩ | ⟨A, C, rfl, hA, hC⟩
  · rw [in_is hA hC, in_last hA hC]
    have := h1 c (by simp)
    constructor
    · intro _; omega
    · intro _; rfl
  · rw [out_is hA hC, out_last hA hC]
    simp
/-- What Look tells. -/
def lookR (L : List Req) (k n : Int) : ByteArray × Bool × Int :=
  if n < 1 then (str [], false, 1)
  else if n = (lastR L k).n then ((lastR L k).s, true, 0)
  else if n < (lastR L k).n then (str [], false, 150)
  else if (lastR L k).n < n - 1 then (str [], false, 151)
  else if (lastR L k).n = 0 ∧ 64 ≤ L.length then (str [], false, 3)
  else (str [], false, 0)
/-- Whether a request is done. -/
def freshR (L : List Req) (k n : Int) : Prop := (lookR L k n).2.1 = false ∧ (lookR L k n).2.2 = 0
/-- A table as it may be. -/
structure Tab (L : List Req) : Prop where
  rise : RiseQ L
  one : ∀ x ∈ L, 1 ≤ x.n
  few : L.length ≤ 64
theorem Tab.nil : Tab [] := ⟨List.Pairwise.nil, fun x hx => by simp at hx, by simp⟩
theorem fresh_is {L : List Req} {k n : Int} (h : freshR L k n) : 1 ≤ n ∧ n = (lastR L k).n + 1 ∨ 1 ≤ n ∧ (lastR L k).n < n ∧ n - 1 ≤ (lastR L k).n := by
  unfold freshR lookR at h
  split at h
  · simp at h
  · split at h
    · simp at h
    · split at h
      · simp at h
      · split at h
        · simp at h
        · right
          omega
theorem Tab.put {L : List Req} (h : Tab L) {k n : Int} (s : ByteArray) (hf : freshR L k n) : Tab (putR L ⟨k, n, s⟩) := by
  have hn : 1 ≤ n := by rcases fresh_is hf with h | h <;> omega
  refine ⟨put_rise h.rise _, fun x hx => ?_, ?_⟩
  · rcases put_mem h.rise hx with rfl | hx
    · exact hn
    · exact h.one x hx
  · rw [put_len]
    have h64 := h.few
    split
    · omega
    · rename_i hi
      have h0 : (lastR L k).n = 0 := by
        have := (is_last h.rise h.one k)
        by_cases e : (lastR L k).n = 0
        · exact e
        · exact absurd (this.2 e) hi
      unfold freshR lookR at hf
      split at hf
      · simp at hf
      · split at hf
        · simp at hf
        · split at hf
          · simp at hf
          · split at hf
            · simp at hf
            · split at hf
              · simp at hf
              · rename_i h5
                omega
end Go.Proofs.YtidghoipmggklaaGreat
end

section
/- Requests of sessions in memory: rows of three cells; appends; a copy of three-celled elements. -/
namespace Go.Proofs.YtidghoipmggklaaGreat
open Go.RowKit
def rq (e : Req) : List Value := [.int .i64 e.k, .int .i64 e.n, .string e.s]
theorem rq_len (l : List Req) : (l.flatMap rq).length = l.length * 3 := by
  induction l with
  | nil => rfl
  | cons c r ih => rw [List.flatMap_cons, List.length_append, ih]; simp [rq]; omega
theorem rq_one (l : List Req) : ∀ u ∈ l.flatMap rq, u.oneCell' = true := by
  intro u hu
  obtain ⟨p, _, hp⟩ := List.mem_flatMap.1 hu
  simp only [rq, List.mem_cons, List.not_mem_nil, or_false] at hp
  rcases hp with rfl | rfl | rfl <;> rfl
theorem rq_get (l : List Req) (j : Nat) (h : j < l.length) : (l.flatMap rq)[j * 3]? = some (.int .i64 l[j].k) ∧ (l.flatMap rq)[j * 3 + 1]? = some (.int .i64 l[j].n) ∧ (l.flatMap rq)[j * 3 + 2]? = some (.string l[j].s) := by
  induction l generalizing j with
  | nil => simp at h
  | cons c r ih =>
    rw [List.flatMap_cons]
    have hl : (rq c).length = 3 := rfl
    cases j with
    | zero => simp [rq]
    | succ j =>
      have h1 := ih j (by simpa using h)
      have e : ∀ i, (rq c ++ r.flatMap rq)[(j + 1) * 3 + i]? = (r.flatMap rq)[j * 3 + i]? := fun i => by
        rw [List.getElem?_append_right (by rw [hl]; omega), hl]
        congr 1
        omega
      have e0 := e 0
      have e1 := e 1
      have e2 := e 2
      rw [Nat.add_zero, Nat.add_zero] at e0
      rw [e0, e1, e2]
      simpa using h1
theorem rq_take (l : List Req) (j : Nat) : (l.flatMap rq).take (j * 3) = (l.take j).flatMap rq := by
  induction l generalizing j with
  | nil => simp
  | cons c r ih =>
    cases j with
    | zero => simp
    | succ j =>
      rw [List.flatMap_cons, List.take_succ_cons, List.flatMap_cons, ← ih j, List.take_append]
      have hl : (rq c).length = 3 := rfl
      rw [hl, List.take_of_length_le (by rw [hl]; omega), show (j + 1) * 3 - 3 = j * 3 by omega]
theorem rq_drop (l : List Req) (j : Nat) : (l.flatMap rq).drop (j * 3) = (l.drop j).flatMap rq := by
  induction l generalizing j with
  | nil => simp
  | cons c r ih =>
    cases j with
    | zero => simp
    | succ j =>
      rw [List.flatMap_cons, List.drop_succ_cons, ← ih j, List.drop_append]
      have hl : (rq c).length = 3 := rfl
      rw [hl, List.drop_of_length_le (by rw [hl]; omega), show (j + 1) * 3 - 3 = j * 3 by omega, List.nil_append]
theorem slt_blk {w : World} {k : Nat} {o : Obj} (h : w.heap[k]? = some o) : k < w.heap.size := (Array.getElem?_eq_some_iff.1 h).1
theorem slt_cell {w : World} {b o : Nat} {u : Value} (h : w.cell? ⟨b, o, none⟩ = some u) : b < w.heap.size := World.block_lt_of_cell? w ⟨b, o, none⟩ h
theorem sfr_cell {w w' : World} {S : Nat → Prop} (f : Fr w w' S) {b o : Nat} {u : Value} (hb : ¬ S b) (h : w.cell? ⟨b, o, none⟩ = some u) : w'.cell? ⟨b, o, none⟩ = some u :=
  (World.cell?_of_block (a := ⟨b, o, none⟩) (f.block b (slt_cell h) hb)).trans h
theorem sone_new (w : World) (x : Obj) : Below w.heap.size w (w.alloc x) := (Below.refl _ _).alloc (Nat.le_refl _) _
theorem srow_keep {w w' : World} {base : Nat} {e : TypeId} {size : Nat} {v : Value} {n : Nat} {xs : List Value} {S : Nat → Prop} (h : w.ownsRow base e size v n xs) (f : Fr w w' S) (hS : ∀ k, v.ownBlock = some k → ¬ S k) : w'.ownsRow base e size v n xs := by
  refine ⟨h.1, ?_⟩
  rcases h.2 with h2 | ⟨g, cap, cur, rfl, h3, h4, h5⟩
  · exact Or.inl h2
  · exact Or.inr ⟨g, cap, cur, rfl, h3, (f.block g (slt_blk h4) (hS g rfl)).trans h4, h5⟩
theorem srow_tag {w : World} {base : Nat} {e : TypeId} {size : Nat} {v : Value} {n : Nat} {xs : List Value} (h : w.ownsRow base e size v n xs) {k : Nat} (hk : v.ownBlock = some k) : base ≤ k ∧ ∃ c f, w.heap[k]? = some (.cells c e f) := by
  rcases h.2 with ⟨h2, _⟩ | ⟨g, cap, cur, rfl, h3, h4, h5⟩
  · rw [h2] at hk; cases hk
  · cases hk
    exact ⟨h3, _, _, h4⟩
/-- Requests that can be read. -/
def RqS (w : World) (v : Value) (L : List Req) : Prop := ∃ ao cap, v = .slice ao L.length cap ∧ L.length ≤ cap ∧ (0 < L.length → ∃ b off, ao = some ⟨b, off, none⟩ ∧ ∀ j (h : j < L.length), w.cell? ⟨b, off + j * 3, none⟩ = some (.int .i64 L[j].k) ∧ w.cell? ⟨b, off + j * 3 + 1, none⟩ = some (.int .i64 L[j].n) ∧ w.cell? ⟨b, off + j * 3 + 2, none⟩ = some (.string L[j].s))
/-- Requests in a row of one's own. -/
def RqO (e : TypeId) (w : World) (B : Nat) (v : Value) (L : List Req) : Prop := w.ownsRow B e 3 v L.length (L.flatMap rq)
section
variable {e : TypeId} {w w' : World} {B : Nat} {v : Value} {L : List Req}
theorem RqO.shape (h : RqO e w B v L) : ∃ ao c, v = .slice ao L.length c ∧ L.length ≤ c ∧ (0 < L.length → ∃ g, ao = some ⟨g, 0, none⟩) := by
  rcases h.2 with ⟨h1, h2⟩ | ⟨g, cap, cur, rfl, _, _, h3, _⟩
  · exact ⟨none, 0, by rw [h1, h2], by omega, fun e => by omega⟩
  · exact ⟨_, _, rfl, h3, fun _ => ⟨g, rfl⟩⟩
theorem RqO.at_ {g n cap : Nat} (h : RqO e w B (.slice (some ⟨g, 0, none⟩) n cap) L) (j : Nat) (hj : j < L.length) : w.cell? ⟨g, j * 3, none⟩ = some (.int .i64 L[j].k) ∧ w.cell? ⟨g, j * 3 + 1, none⟩ = some (.int .i64 L[j].n) ∧ w.cell? ⟨g, j * 3 + 2, none⟩ = some (.string L[j].s) := by
  obtain ⟨ao, c, e, _⟩ := h.shape
  cases e
  obtain ⟨a0, a1, a2⟩ := rq_get L j hj
  have h0 := World.ownsRow.cells h (g := g) rfl _ _ a0
  have h1 := World.ownsRow.cells h (g := g) rfl _ _ a1
  have h2 := World.ownsRow.cells h (g := g) rfl _ _ a2
  rw [Addr.add_lit] at h0 h1 h2
  exact ⟨by simpa using h0, by simpa using h1, by simpa using h2⟩
theorem RqO.toS (h : RqO e w B v L) : RqS w v L := by
  obtain ⟨ao, c, rfl, hc, hg⟩ := h.shape
  refine ⟨ao, c, rfl, hc, fun h0 => ?_⟩
  obtain ⟨g, rfl⟩ := hg h0
  exact ⟨g, 0, rfl, fun j hj => by simpa using h.at_ j hj⟩
theorem RqO.nil (e : TypeId) (w : World) (B : Nat) : RqO e w B (.slice none 0 0) [] := World.ownsRow_nil _ _ _ _
theorem RqO.kept (h : RqO e w B v L) {S : Nat → Prop} (f : Fr w w' S) (hS : ∀ k, v.ownBlock = some k → ¬ S k) : RqO e w' B v L := srow_keep h f hS
theorem RqO.new (h : RqO e w B v L) (hb : Below w.heap.size w w') : RqO e w' B v L := h.kept (Fr.ofBelow hb (fun _ => False)) (fun _ _ h => h)
theorem RqO.lt (h : RqO e w B v L) : ∀ k, v.ownBlock = some k → B ≤ k ∧ k < w.heap.size := World.ownsRow.lt h
theorem RqS.new (h : RqS w v L) (hb : Below w.heap.size w w') : RqS w' v L := by
  obtain ⟨ao, cap, rfl, h1, h2⟩ := h
  refine ⟨ao, cap, rfl, h1, fun h0 => ?_⟩
  obtain ⟨b, off, e, h3⟩ := h2 h0
  exact ⟨b, off, e, fun j hj => ⟨(hb.cell (p := ⟨b, off + j * 3, none⟩) (slt_cell (h3 j hj).1)).trans (h3 j hj).1, (hb.cell (p := ⟨b, off + j * 3 + 1, none⟩) (slt_cell (h3 j hj).1)).trans (h3 j hj).2.1, (hb.cell (p := ⟨b, off + j * 3 + 2, none⟩) (slt_cell (h3 j hj).1)).trans (h3 j hj).2.2⟩⟩
end
/-- The one of a new cell of three. -/
theorem RqS.one {w : World} {g : Nat} {x : Req} {t : TypeId} {f : Nat × Nat} (h : w.heap[g]? = some (.cells #[.int .i64 x.k, .int .i64 x.n, .string x.s] t f)) (c : Nat) (hc : 1 ≤ c) : RqS w (.slice (some ⟨g, 0, none⟩) 1 c) [x] := by
  refine ⟨_, _, rfl, hc, fun _ => ⟨g, 0, rfl, fun j hj => ?_⟩⟩
  have : j = 0 := by simp at hj; exact hj
  subst this
  simp [World.cell?, h]
end Go.Proofs.YtidghoipmggklaaGreat
end

section
/- Where a session stands: cmp.Compare, slices.BinarySearchFunc over requests, find. -/
namespace Go.Proofs.YtidghoipmggklaaGreat
open Go.RowKit
def c3s (x y : Int) : Int := if x < y then -1 else if y < x then 1 else 0
theorem snan (x : Int) (w : World) : Calls Tryz.prog 244 #[.int .i64 x] w fun e w' => e = .returned (.bool false) ∧ w' = w := by
  have hx : (x != x) = false := by simp
  go_enter Tryz.func244, Tryz.ntmps244
  go_wp2
  go_ret
  exact ⟨by simp, rfl⟩
theorem scmp (x y : Int) (w : World) : Calls Tryz.prog 201 #[.int .i64 x, .int .i64 y] w fun e w' => e = .returned (.int .i64 (c3s x y)) ∧ w' = w := by
  by_cases h : x < y
  · have e : c3s x y = -1 := by unfold c3s; rw [if_pos h]
    rw [e]
    go_enter Tryz.func201, Tryz.ntmps201
    go_wp2_with (go_at_call 244; refine (snan _ _).mono ?_; rintro r w1 ⟨rfl, rfl⟩)
    go_ret
    exact ⟨rfl, rfl⟩
  · by_cases h' : y < x
    · have e : c3s x y = 1 := by unfold c3s; rw [if_neg h, if_pos h']
      rw [e]
      go_enter Tryz.func201, Tryz.ntmps201
      go_wp2_with (go_at_call 244; refine (snan _ _).mono ?_; rintro r w1 ⟨rfl, rfl⟩)
      go_ret
      exact ⟨rfl, rfl⟩
    · have e : c3s x y = 0 := by unfold c3s; rw [if_neg h, if_neg h']
      rw [e]
      go_enter Tryz.func201, Tryz.ntmps201
      go_wp2_with (go_at_call 244; refine (snan _ _).mono ?_; rintro r w1 ⟨rfl, rfl⟩)
      go_ret
      exact ⟨rfl, rfl⟩
theorem sfind1 (k n : Int) (s : ByteArray) (x : Int) (w : World) :
    Calls Tryz.prog 225 #[.agg #[.int .i64 k, .int .i64 n, .string s], .int .i64 x] w fun r w' => r = .returned (.int .i64 (c3s k x)) ∧ Below w.heap.size w w' := by
  go_enter Tryz.func225, Tryz.ntmps225
  go_wp2_with (go_at_call 201; refine (scmp _ _ _).mono ?_; rintro r w1 ⟨rfl, rfl⟩)
  go_ret
  exact ⟨rfl, (Below.refl _ _).alloc (Nat.le_refl _) _⟩
theorem riseq_lt {L : List Req} (h : RiseQ L) {i j : Nat} (hij : i < j) (hj : j < L.length) : L[i].k < L[j].k := List.pairwise_iff_getElem.1 h i j (by omega) hj hij
theorem pos_eq {L : List Req} {k : Int} {i : Nat} (hi : i ≤ L.length) (h1 : ∀ q (h : q < L.length), q < i → L[q].k < k) (h2 : ∀ q (h : q < L.length), i ≤ q → k ≤ L[q].k) : posR L k = i := by
  have e := posR_at (A := L.take i) (C := L.drop i) (k := k) (fun x hx => by
    obtain ⟨q, hq, rfl⟩ := List.getElem_of_mem hx
    rw [List.length_take] at hq
    rw [List.getElem_take]
    exact h1 q (by omega) (by omega)) (fun x hx => by
    obtain ⟨q, hq, rfl⟩ := List.getElem_of_mem hx
    rw [List.length_drop] at hq
    rw [List.getElem_drop]
    have := h2 (i + q) (by omega) (by omega)
    omega)
  rw [List.take_append_drop, List.length_take] at e
  omega
set_option maxRecDepth 100000 in
set_option maxHeartbeats 4000000 in
theorem sbsearch {w : World} {v : Value} {G : List Req} (x : Int) (h : RqS w v G) (hl : G.length ≤ 1073741824) (hr : RiseQ G) :
    Calls Tryz.prog 224 #[v, .int .i64 x, .func (.func 225) #[] #[]] w fun r w' => r = .returned (.tuple #[.int .i64 (posR G x), .bool (isR G x)]) ∧ Below w.heap.size w w' := by
  have HR : Hid (RiseQ G) := hr
  clear hr
  obtain ⟨ao, cap, rfl, hcap, hC⟩ := h
  have HC : Hid (0 < G.length → ∃ b off, ao = some ⟨b, off, none⟩ ∧ ∀ j (h : j < G.length), w.cell? ⟨b, off + j * 3, none⟩ = some (.int .i64 G[j].k) ∧ w.cell? ⟨b, off + j * 3 + 1, none⟩ = some (.int .i64 G[j].n) ∧ w.cell? ⟨b, off + j * 3 + 2, none⟩ = some (.string G[j].s)) := hC
  clear hC hcap
  go_enter Tryz.func224, Tryz.ntmps224
  go_wp2
  go_loopw [9, 10, 11] (fun u v _ wr => ∃ (i j : Nat), i ≤ j ∧ j ≤ G.length ∧ u = .int .i64 i ∧ v = .int .i64 j ∧ Hid (∀ q (h : q < G.length), q < i → G[q].k < x) ∧ Hid (∀ q (h : q < G.length), j ≤ q → x ≤ G[q].k) ∧ Below w.heap.size w wr) (fun u v _ _ => (intOf v).toNat - (intOf u).toNat)
  case atStart => exact ⟨0, G.length, Nat.zero_le _, Nat.le_refl _, rfl, rfl, fun q _ hq => absurd hq (by omega), fun q hq hq' => absurd hq (by omega), Below.refl _ _⟩
  case round =>
    obtain ⟨i, j, hij, hj, rfl, rfl, H1, H2, hb⟩ := hrel
    by_cases hlt : i < j
    · obtain ⟨m, HM⟩ : ∃ m : Nat, Hid (m = (i + j) / 2) := ⟨_, rfl⟩
      have hm : m = (i + j) / 2 := HM.out
      have hmi : i ≤ m := by omega
      have hmj : m < j := by omega
      have hmG : m < G.length := by omega
      obtain ⟨b, off, rfl, hc⟩ := HC.out (by omega)
      obtain ⟨c0, c1, c2⟩ := hc m hmG
      have hbb := slt_cell c0
      have d0 := (hb.cell (p := ⟨b, off + m * 3, none⟩) hbb).trans c0
      have d1 := (hb.cell (p := ⟨b, off + m * 3 + 1, none⟩) hbb).trans c1
      have d2 := (hb.cell (p := ⟨b, off + m * 3 + 2, none⟩) hbb).trans c2
      have hdv : ((i : Int) + (j : Int)) / 2 = m := by omega
      have HU : Hid (G[m].k < x → ∀ q (h : q < G.length), q < m + 1 → G[q].k < x) := fun hy q hq hqm => by
        by_cases e : q = m
        · subst e; exact hy
        · have := riseq_lt HR.out (show q < m by omega) hmG
          omega
      have HV : Hid (x ≤ G[m].k → ∀ q (h : q < G.length), m ≤ q → x ≤ G[q].k) := fun hy q hq hqm => by
        by_cases e : q = m
        · subst e; exact hy
        · have := riseq_lt HR.out (show m < q by omega) hq
          omega
      generalize G[m] = y at d0 d1 d2 HU HV
      have hF := fun w => sfind1 y.k y.n y.s x w
      clear c0 c1 c2 hc hm
      by_cases hy : y.k < x
      · rw [show c3s y.k x = -1 from if_pos hy] at hF
        have HU2 : Hid (∀ q (h : q < G.length), q < m + 1 → G[q].k < x) := HU.out hy
        go_wp2_with (go_at_call 225; refine (hF _).mono ?_; rintro r w1 ⟨rfl, hb1⟩)
        go_roundw
        case rel => exact ⟨m + 1, j, by omega, by omega, by go_num, rfl, HU2, H2, hb.trans (hb1.mono hb.size)⟩
        case measure => simp [intOf]; omega
      · obtain ⟨c, hcc, hc0⟩ : ∃ c, c3s y.k x = c ∧ ¬ c < 0 := ⟨_, rfl, by unfold c3s; rw [if_neg hy]; split <;> omega⟩
        rw [hcc] at hF
        have HV2 : Hid (∀ q (h : q < G.length), m ≤ q → x ≤ G[q].k) := HV.out (by omega)
        clear hcc
        go_wp2_with (go_at_call 225; refine (hF _).mono ?_; rintro r w1 ⟨rfl, hb1⟩)
        go_roundw
        case rel => exact ⟨i, m, by omega, by omega, rfl, rfl, H1, HV2, hb.trans (hb1.mono hb.size)⟩
        case measure => simp [intOf]; omega
    · obtain rfl : i = j := by omega
      have HF : Hid (posR G x = i) := pos_eq hj H1.out H2.out
      by_cases hin : i < G.length
      · obtain ⟨b, off, rfl, hc⟩ := HC.out (by omega)
        obtain ⟨c0, c1, c2⟩ := hc i hin
        have hbb := slt_cell c0
        have d0 := (hb.cell (p := ⟨b, off + i * 3, none⟩) hbb).trans c0
        have d1 := (hb.cell (p := ⟨b, off + i * 3 + 1, none⟩) hbb).trans c1
        have d2 := (hb.cell (p := ⟨b, off + i * 3 + 2, none⟩) hbb).trans c2
        have HX : Hid (x ≤ G[i].k) := H2.out i hin (Nat.le_refl _)
        have HB : Hid (isR G x = (c3s G[i].k x == 0)) := by
          show _ = _
          have h1 := HX.out
          unfold isR
          rw [HF.out, List.getElem?_eq_getElem hin]
          unfold c3s
          simp only
          rw [if_neg (by omega)]
          split
          · simp
            omega
          · simp
            omega
        generalize G[i] = y at d0 d1 d2 HX HB
        have hF := fun w => sfind1 y.k y.n y.s x w
        clear c0 c1 c2 hc
        generalize c3s y.k x = c at hF HB
        go_wp2_with (go_at_call 225; refine (hF _).mono ?_; rintro r w1 ⟨rfl, hb1⟩)
        go_ret2
        exact ⟨by rw [HF.out, HB.out]; rfl, hb.trans (hb1.mono hb.size)⟩
      · have HB : Hid (isR G x = false) := by
          show _ = _
          unfold isR
          rw [HF.out, List.getElem?_eq_none (by omega)]
        go_wp2
        go_ret2
        exact ⟨by rw [HF.out, HB.out]; rfl, hb⟩
end Go.Proofs.YtidghoipmggklaaGreat
end

section
/- slices.Insert of one request (the same walk as that of vertices in MuIns). -/
namespace Go.Proofs.YtidghoipmggklaaGreat
open Go.RowKit
theorem mInfoQ : (Tryz.prog.info? 230).map (fun i => (i.zero, i.size, i.bytes)) = some (some (.agg #[.int .i64 0, .int .i64 0, .string (str [])]), 3, 32) := by kernel_rfl
/-- What stands behind an insertion in place. -/
theorem ins_list' {cur ys : List Value} {N p k : Nat} (hp : p ≤ N) (hc : N + k ≤ cur.length) (hy : ys.length = k) :
    (over (over cur (p + k) ((cur.take N).drop p)) p ys).take (N + k) = (cur.take N).take p ++ ys ++ (cur.take N).drop p := by
  obtain ⟨D, hD⟩ : ∃ D, D = (cur.take N).drop p := ⟨_, rfl⟩
  have hl : D.length = N - p := by rw [hD, List.length_drop, List.length_take]; omega
  rw [← hD]
  have hd : (over cur (p + k) D).drop (p + k) = D ++ cur.drop (p + k + D.length) := by
    unfold over
    rw [List.append_assoc, List.drop_left' (by rw [List.length_take]; omega)]
  have ht : (over cur (p + k) D).take p = cur.take p := over_take_lo _ _ _ (by omega) (by omega)
  show ((over cur (p + k) D).take p ++ ys ++ (over cur (p + k) D).drop (p + ys.length)).take (N + k) = _
  rw [ht, hy, hd, List.take_take, Nat.min_eq_left hp, ← List.append_assoc, List.take_left' (by rw [List.length_append, List.length_append, List.length_take]; omega)]
theorem ins_list {cur ys : List Value} {n i k : Nat} (hi : i ≤ n) (hc : (n + 1) * k ≤ cur.length) (hy : ys.length = k) :
    (over (over cur ((i + 1) * k) ((cur.take (n * k)).drop (i * k))) (i * k) ys).take ((n + 1) * k) = (cur.take (n * k)).take (i * k) ++ ys ++ (cur.take (n * k)).drop (i * k) := by
  have e1 : i * k ≤ n * k := Nat.mul_le_mul_right k hi
  rw [Nat.succ_mul] at hc
  rw [Nat.succ_mul, Nat.succ_mul]
  exact ins_list' e1 hc hy
theorem grow_list' {xs zs ys : List Value} {N p k : Nat} (hp : p ≤ N) (hx : xs.length = N) (hz : N + k ≤ (xs.take p ++ zs).length) (hy : ys.length = k) :
    (over (over (xs.take p ++ zs) p ys) (p + k) (xs.drop p)).take (N + k) = xs.take p ++ ys ++ xs.drop p := by
  have hl := over_len (xs.take p ++ zs) p ys (by omega)
  have h5 : N + k = (p + k) + (xs.drop p).length := by rw [List.length_drop]; omega
  have e : (over (xs.take p ++ zs) p ys).take (p + k) = xs.take p ++ ys := by
    rw [← hy, over_take_at _ _ _ (by omega), List.take_left' (by rw [List.length_take]; omega)]
  rw [h5, over_take_at _ _ _ (by omega), e]
theorem grow_list {xs zs ys : List Value} {n i k : Nat} (hi : i ≤ n) (hx : xs.length = n * k) (hz : (n + 1) * k ≤ (xs.take (i * k) ++ zs).length) (hy : ys.length = k) :
    (over (over (xs.take (i * k) ++ zs) (i * k) ys) ((i + 1) * k) (xs.drop (i * k))).take ((n + 1) * k) = xs.take (i * k) ++ ys ++ xs.drop (i * k) := by
  have e1 : i * k ≤ n * k := Nat.mul_le_mul_right k hi
  rw [Nat.succ_mul] at hz
  rw [Nat.succ_mul, Nat.succ_mul]
  exact grow_list' e1 hx hz hy
theorem cells_blk {w : World} {b : Nat} {t : TypeId} {ys : List Value} {f : Nat × Nat} (h : w.heap[b]? = some (.cells ys.toArray t f)) : ∀ j u, ys[j]? = some u → w.cell? ((⟨b, 0, none⟩ : Addr).add j) = some u := by
  intro j u hu
  rw [Addr.add_lit, Nat.zero_add]
  simp [World.cell?, h, hu]

set_option maxHeartbeats 4000000 in
set_option maxRecDepth 100000 in
/-- There is room, and it stands ahead of others: in place. -/
theorem insQ_shift {w : World} {base g cap vb : Nat} {cur ys : List Value} (h : Blk w base 230 3 g cap cur) (n i : Nat) (hi : i < n) (hn : n + 1 ≤ cap) (h1 : ∀ u ∈ cur.take (n * 3), u.oneCell' = true)
    (hv : w.heap[vb]? = some (.cells ys.toArray 230 (0, 0))) (hy : ys.length = 3) (hy1 : ∀ u ∈ ys, u.oneCell' = true) (hne : vb ≠ g) :
    Calls Tryz.prog 212 #[.slice (some ⟨g, 0, none⟩) n cap, .int .i64 i, .slice (some ⟨vb, 0, none⟩) 1 1] w fun e w' =>
      e = .returned (.slice (some ⟨g, 0, none⟩) (n + 1) cap) ∧ w' = (w.drew.setCells g ((i + 1) * 3) ((cur.take (n * 3)).drop (i * 3))).setCells g (i * 3) ys := by
  obtain ⟨i0, hi0, hz0, hzs, hzb⟩ := info_parts mInfoQ
  have hmax : cap ≤ 9223372036854775807 := by have := h.max; unfold maxLen at this; omega
  have hlc : cur.length = cap * 3 := h.size
  have hcells := cells_blk hv
  have hov : ∀ lb cb, (callFunc 264 #[.slice (some ⟨vb, 0, none⟩) 1 1, .slice (some ⟨g, (i + 1) * 3, none⟩) lb cb]).run Tryz.prog w = .ok (.value (.bool false)) w := fun lb cb => by
    rw [run_callFunc_extern Tryz.func264 (by kernel_rfl) (by kernel_rfl) (by kernel_rfl) (e := Extern.SlicesOverlaps.overlaps #[232, 232] #[4]) (by kernel_rfl),
      Lib.run_overlaps_apart w 232 4 230 Tryz.underlying232 3 Tryz.sizeOf230 ⟨vb, 0, none⟩ ⟨g, (i + 1) * 3, none⟩ 1 1 lb cb hne 230 230 3 (cap * 3) (by simp [World.shape?, hv, hy]) (by simp [World.shape?, h.heap, hlc]) (by omega) (by simp [World.frozen?, hv]) (by simp [World.frozen?, hv])]
    rfl
  obtain ⟨news, hnews⟩ : ∃ news, news = (cur.take (n * 3)).drop (i * 3) := ⟨_, rfl⟩
  have hlen : news.length = (n - i) * 3 := by rw [hnews, List.length_drop, List.length_take]; omega
  have hget : ∀ t u, news[t]? = some u → cur[i * 3 + t]? = some u := by
    intro t u hu
    rw [hnews, List.getElem?_drop, List.getElem?_take] at hu
    split at hu
    · exact hu
    · cases hu
  have hB1 := h.drew.set ((i + 1) * 3) news (by rw [hlen]; omega)
  have hcp1 : ∀ ty dc sc, (Builtin.copy_ #[232, 232] ty #[.slice (some ⟨g, (i + 1) * 3, none⟩) (n - i) dc, .slice (some ⟨g, i * 3, none⟩) (n + 1 - i) sc]).run Tryz.prog w.drew = .ok (goInt ((n - i : Nat) : Int)) (w.drew.setCells g ((i + 1) * 3) news) := fun ty dc sc =>
    run_copy_k w.drew _ _ ty 230 i0 g ((i + 1) * 3) (n - i) dc ⟨g, i * 3, none⟩ (n + 1 - i) sc (n - i) news Tryz.underlying232 hi0 (by simp only [Nat.min_def]; split <;> omega) (by rw [hzs]; exact hlen)
      (fun j u hj => by rw [Addr.add_lit]; exact (h.cell _).trans (hget j u hj))
      (fun j hj => h.there (by omega)) (fun j hj => h.soft _) (fun u hu => by rw [hnews] at hu; exact h1 u (List.mem_of_mem_drop hu))
  obtain ⟨W1, hW1⟩ : ∃ W1, W1 = w.drew.setCells g ((i + 1) * 3) news := ⟨_, rfl⟩
  rw [← hW1] at hB1 hcp1
  have hv1 : W1.heap[vb]? = some (.cells ys.toArray 230 (0, 0)) := by
    rw [hW1]
    exact ((fr_setCells g (S := fun k => k = g) rfl news ((i + 1) * 3) w.drew).block vb (Array.getElem?_eq_some_iff.1 hv).1 hne).trans hv
  have hcp2 : ∀ ty dc, (Builtin.copy_ #[232, 232] ty #[.slice (some ⟨g, i * 3, none⟩) (n + 1 - i) dc, .slice (some ⟨vb, 0, none⟩) 1 1]).run Tryz.prog W1 = .ok (goInt 1) (W1.setCells g (i * 3) ys) := fun ty dc =>
    run_copy_k W1 _ _ ty 230 i0 g (i * 3) (n + 1 - i) dc ⟨vb, 0, none⟩ 1 1 1 ys Tryz.underlying232 hi0 (by simp only [Nat.min_def]; split <;> omega) (by rw [hzs, hy])
      (cells_blk hv1) (fun j hj => hB1.there (by omega)) (fun j hj => hB1.soft _) hy1
  have HE : Hid (W1 = w.drew.setCells g ((i + 1) * 3) news) := hW1
  have HC1 : Hid _ := hcp1
  have HOv : Hid _ := hov
  rw [← hnews]
  have hz2 : ¬ ((i : Int) = (n : Int)) := by omega
  have hin : i ≤ n := by omega
  have hic : i ≤ cap := by omega
  have htn : ((i : Int) + 1).toNat = i + 1 := by omega
  have hw1 : IntKind.i64.wrap ((i : Int) + 1) = (i : Int) + 1 := by rw [IntKind.wrap_i64]; omega
  have hb1 : (0 : Int) ≤ (i : Int) + 1 := by omega
  have hb6 : (i : Int) + 1 ≤ (n : Int) + 1 := by omega
  have htn2 : ((n : Int) + 1).toNat = n + 1 := by omega
  have hb2 : ¬ (cap = i + 1) := by omega
  have hb4 : ¬ (cap = i) := by omega
  have hb3 : (i : Int) ≤ (n : Int) + 1 := by omega
  have hb5 : ¬ ((cap : Int) < (n : Int) + 1) := by omega
  clear hW1 hB1 hget hnews hlen hlc h h1 hcp1 hcells hv1 hv
  go_enter Tryz.func212, Tryz.ntmps212
  go_wp2_with (simp only [hov])
  go_region_law (refine step_copy_run rfl _ _ 232 232 rfl (.slice (some ⟨g, (i + 1) * 3, none⟩) (n - i) (cap - (i + 1))) (.slice (some ⟨g, i * 3, none⟩) (n + 1 - i) (cap - i)) (by simp [Act.eval, Act.put]) (by simp [Act.eval, Act.put]) (HC1.out 3 (cap - (i + 1)) (cap - i)) ?_)
  go_wp2
  go_ret
  exact ⟨rfl, by rw [HE.out]⟩
set_option maxHeartbeats 4000000 in
set_option maxRecDepth 100000 in
/-- There is no room: a new row. -/
theorem insQ_grow {w : World} {base g cap vb : Nat} {cur ys : List Value} (h : Blk w base 230 3 g cap cur) (n i : Nat) (hi : i < n) (hn : n ≤ cap) (hroom : cap < n + 1) (hbig : (n + 1) * 32 ≤ 140737488355328) (h1 : ∀ u ∈ cur.take (n * 3), u.oneCell' = true)
    (hv : w.heap[vb]? = some (.cells ys.toArray 230 (0, 0))) (hy : ys.length = 3) (hy1 : ∀ u ∈ ys, u.oneCell' = true) :
    Calls Tryz.prog 212 #[.slice (some ⟨g, 0, none⟩) n cap, .int .i64 i, .slice (some ⟨vb, 0, none⟩) 1 1] w fun e w' =>
      ∃ G zs, e = .returned (.slice (some ⟨w.heap.size, 0, none⟩) (n + 1) G) ∧ n + 1 ≤ G ∧ G ≤ maxLen ∧ ((cur.take (n * 3)).take (i * 3) ++ zs).length = G * 3 ∧
      w' = (((w.alloc (.cells ((cur.take (n * 3)).take (i * 3) ++ zs).toArray 230)).drew.setCells w.heap.size (i * 3) ys).drew).setCells w.heap.size ((i + 1) * 3) ((cur.take (n * 3)).drop (i * 3)) := by
  obtain ⟨i0, hi0, hz0, hzs, hzb⟩ := info_parts mInfoQ
  have hmax : cap ≤ 9223372036854775807 := by have := h.max; unfold maxLen at this; omega
  have hlc : cur.length = cap * 3 := h.size
  obtain ⟨xs, hxs⟩ : ∃ xs, xs = cur.take (n * 3) := ⟨_, rfl⟩
  rw [← hxs] at h1 ⊢
  have hxl : xs.length = n * 3 := by rw [hxs, List.length_take]; omega
  have hget : ∀ (t : Nat) (u : Value), xs[t]? = some u → cur[t]? = some u := by
    intro t u hu
    rw [hxs, List.getElem?_take] at hu
    split at hu
    · exact hu
    · cases hu
  have hkk : (n : Int) + 1 - (i : Int) = ((n + 1 - i : Nat) : Int) := by omega
  have hik : i + (n + 1 - i) = n + 1 := by omega
  have hold : (Builtin.firstCells i0.size i (.slice (some ⟨g, 0, none⟩) i cap)).run Tryz.prog w.drew = .ok (xs.take (i * 3)).toArray w.drew := by
    rw [hzs]
    exact run_firstCells_some w.drew 3 i ⟨g, 0, none⟩ i cap (xs.take (i * 3)) (by rw [List.length_take]; omega) (fun j u hj => by
      rw [Addr.add_lit, Nat.zero_add]
      rw [List.getElem?_take] at hj
      split at hj
      · exact (h.cell _).trans (hget j u hj)
      · cases hj)
  have hrz : ∀ ty, (Builtin.append_ #[232, 3] ty #[.slice (some ⟨g, 0, none⟩) i cap, .int .i64 ((n : Int) + 1 - (i : Int))]).run Tryz.prog w =
      .ok (.slice (some ⟨w.heap.size, 0, none⟩) (n + 1) (grownCap w (n + 1) cap 230)) (w.drew.alloc (.cells ((xs.take (i * 3)).toArray ++ Builtin.zeroCells (.agg #[.int .i64 0, .int .i64 0, .string (str [])] : Value).cells (n + 1 - i) ++ Builtin.zeroCells (.agg #[.int .i64 0, .int .i64 0, .string (str [])] : Value).cells (grownCap w (n + 1) cap 230 - (n + 1))) 230)) := fun ty => by
    have h := Lib.run_append_grow_zeros w 232 3 ty 230 i0 _ .i64 .i64 Tryz.underlying232 Tryz.underlying3 hi0 hz0 (some ⟨g, 0, none⟩) i cap (xs.take (i * 3)) hold (n + 1 - i) (by omega) (by omega) (by omega) (by omega) (by rw [hzb]; omega) (by rw [hzb, hik]; exact growslice_fits hroom hbig)
    rw [hik] at h
    rw [hkk]
    exact h
  obtain ⟨G, hG⟩ : ∃ G, G = grownCap w (n + 1) cap 230 := ⟨_, rfl⟩
  rw [← hG] at hrz
  obtain ⟨zs, hzs'⟩ : ∃ zs : List Value, zs = (Builtin.zeroCells (.agg #[.int .i64 0, .int .i64 0, .string (str [])] : Value).cells (n + 1 - i)).toList ++ (Builtin.zeroCells (.agg #[.int .i64 0, .int .i64 0, .string (str [])] : Value).cells (G - (n + 1))).toList := ⟨_, rfl⟩
  have hrow : (xs.take (i * 3)).toArray ++ Builtin.zeroCells (.agg #[.int .i64 0, .int .i64 0, .string (str [])] : Value).cells (n + 1 - i) ++ Builtin.zeroCells (.agg #[.int .i64 0, .int .i64 0, .string (str [])] : Value).cells (G - (n + 1)) = (xs.take (i * 3) ++ zs).toArray := by
    rw [hzs']
    apply Array.ext'
    simp
  rw [hrow] at hrz
  have hGn : n + 1 ≤ G := by rw [hG]; exact grownCap_ge w _ _ _
  have hGm : G ≤ maxLen := by rw [hG]; exact grownCap_le_maxLen w (n + 1) cap 230 (by unfold maxLen; omega)
  have hG63 : G ≤ 9223372036854775807 := by unfold maxLen at hGm; omega
  have hRl : (xs.take (i * 3) ++ zs).length = G * 3 := by
    have hk : (.agg #[.int .i64 0, .int .i64 0, .string (str [])] : Value).cells.size = 3 := by decide
    rw [List.length_append, hzs', List.length_append, zc_len, zc_len, List.length_take, hk]
    omega
  obtain ⟨ROW, hROW⟩ : ∃ ROW, ROW = xs.take (i * 3) ++ zs := ⟨_, rfl⟩
  rw [← hROW] at hRl hrz
  have hB0 : Blk (w.alloc (.cells ROW.toArray 230)).drew w.heap.size 230 3 w.heap.size G ROW := ⟨Nat.le_refl _, heap_alloc_new w _, hGm, hRl⟩
  have hB1 := (hB0.set (i * 3) ys (by omega)).drew
  have hvl : vb < w.heap.size := (Array.getElem?_eq_some_iff.1 hv).1
  have hv0 : ((w.alloc (.cells ROW.toArray 230)).drew).heap[vb]? = some (.cells ys.toArray 230 (0, 0)) := (Below.heap_alloc w _ _ hvl).trans hv
  have hgl : g < w.heap.size := h.lt
  have hg1 : (((w.alloc (.cells ROW.toArray 230)).drew.setCells w.heap.size (i * 3) ys).drew).heap[g]? = some (.cells cur.toArray 230 (0, 0)) :=
    ((fr_setCells w.heap.size (S := fun k => k = w.heap.size) rfl ys (i * 3) (w.alloc (.cells ROW.toArray 230)).drew).block g (by show g < (w.alloc _).heap.size; rw [World.size_alloc]; omega) (by omega)).trans ((Below.heap_alloc w _ _ hgl).trans h.heap)
  have hcpA : ∀ ty dc, (Builtin.copy_ #[232, 232] ty #[.slice (some ⟨w.heap.size, i * 3, none⟩) (n + 1 - i) dc, .slice (some ⟨vb, 0, none⟩) 1 1]).run Tryz.prog ((w.alloc (.cells ROW.toArray 230)).drew) = .ok (goInt 1) (((w.alloc (.cells ROW.toArray 230)).drew).setCells w.heap.size (i * 3) ys) := fun ty dc =>
    run_copy_k ((w.alloc (.cells ROW.toArray 230)).drew) _ _ ty 230 i0 w.heap.size (i * 3) (n + 1 - i) dc ⟨vb, 0, none⟩ 1 1 1 ys Tryz.underlying232 hi0 (by simp only [Nat.min_def]; split <;> omega) (by rw [hzs, hy])
      (cells_blk hv0) (fun j hj => hB0.there (by omega)) (fun j hj => hB0.soft _) hy1
  have hcpB : ∀ ty dc sc, (Builtin.copy_ #[232, 232] ty #[.slice (some ⟨w.heap.size, (i + 1) * 3, none⟩) (n - i) dc, .slice (some ⟨g, i * 3, none⟩) (n - i) sc]).run Tryz.prog ((((w.alloc (.cells ROW.toArray 230)).drew).setCells w.heap.size (i * 3) ys).drew) = .ok (goInt ((n - i : Nat) : Int)) (((((w.alloc (.cells ROW.toArray 230)).drew).setCells w.heap.size (i * 3) ys).drew).setCells w.heap.size ((i + 1) * 3) (xs.drop (i * 3))) := fun ty dc sc =>
    run_copy_k ((((w.alloc (.cells ROW.toArray 230)).drew).setCells w.heap.size (i * 3) ys).drew) _ _ ty 230 i0 w.heap.size ((i + 1) * 3) (n - i) dc ⟨g, i * 3, none⟩ (n - i) sc (n - i) (xs.drop (i * 3)) Tryz.underlying232 hi0 (by simp only [Nat.min_def]; split <;> omega) (by rw [hzs, List.length_drop]; omega)
      (fun j u hj => by rw [Addr.add_lit]; simp only [World.cell?, hg1]; rw [List.getElem?_drop] at hj; simpa using hget _ u hj)
      (fun j hj => hB1.there (by rw [List.length_drop] at hj; omega)) (fun j hj => hB1.soft _) (fun u hu => h1 u (List.mem_of_mem_drop hu))
  have HA : Hid _ := hrz
  have HC2 : Hid _ := hcpB
  have HR : Hid (ROW = xs.take (i * 3) ++ zs) := hROW
  have HGm : Hid (G ≤ maxLen) := hGm
  have HRl : Hid (ROW.length = G * 3) := hRl
  have hz2 : ¬ ((i : Int) = (n : Int)) := by omega
  have hin : i ≤ n := by omega
  have hic : i ≤ cap := by omega
  have htn : ((i : Int) + 1).toNat = i + 1 := by omega
  have hw1 : IntKind.i64.wrap ((i : Int) + 1) = (i : Int) + 1 := by rw [IntKind.wrap_i64]; omega
  have hb1 : (0 : Int) ≤ (i : Int) + 1 := by omega
  have hb6 : (i : Int) + 1 ≤ (n : Int) + 1 := by omega
  have hGi : ¬ (G = i) := by omega
  have hGim : ¬ (G = i + 1) := by omega
  have hci : ¬ (cap = i) := by omega
  have hb3 : (i : Int) ≤ (n : Int) + 1 := by omega
  have hb5 : (cap : Int) < (n : Int) + 1 := by omega
  clear hrz hcpB hROW hRl hGm hB0 hB1 hv0 hg1 hG hzs' hrow hold hkk hik hget hxl hxs hlc h1 hv h
  go_enter Tryz.func212, Tryz.ntmps212
  go_wp2_with (at_builtin; refine Lib.wpList_append_run _ rfl _ _ _ _ rfl _ _ rfl rfl _ _ (HA.out _) ?_)
  go_region_law (refine step_copy_run rfl _ _ 232 232 rfl (.slice (some ⟨w.heap.size, (i + 1) * 3, none⟩) (n - i) (G - (i + 1))) (.slice (some ⟨g, i * 3, none⟩) (n - i) (cap - i)) (by simp [Act.eval, Act.put]) (by simp [Act.eval, Act.put]) (HC2.out 3 (G - (i + 1)) (cap - i)) ?_)
  go_wp2
  go_ret
  exact ⟨G, zs, rfl, hGn, HGm.out, by rw [← HR.out]; exact HRl.out, by rw [← HR.out]⟩
set_option maxHeartbeats 4000000 in
set_option maxRecDepth 100000 in
/-- At the end. -/
theorem insQ_end {w : World} {base vb : Nat} {v : Value} {n : Nat} {xs ys : List Value} (h : w.ownsRow base 230 3 v n xs) (hbase : base ≤ w.heap.size) (hbig : (n + 1) * 32 ≤ 140737488355328)
    (hv : w.heap[vb]? = some (.cells ys.toArray 230 (0, 0))) (hy : ys.length = 3) (hy1 : ∀ u ∈ ys, u.oneCell' = true) :
    Calls Tryz.prog 212 #[v, .int .i64 n, .slice (some ⟨vb, 0, none⟩) 1 1] w fun e w' =>
      ∃ v', e = .returned v' ∧ (v'.ownBlock = v.ownBlock ∨ v'.ownBlock = some w.heap.size) ∧ w'.ownsRow base 230 3 v' (n + 1) (xs ++ ys) ∧ Fr w w' (fun k => v.ownBlock = some k) := by
  obtain ⟨i0, hi0, hz0, hzs, hzb⟩ := info_parts mInfoQ
  have HO : Hid _ := h
  have HV : Hid _ := cells_blk hv
  have HY : Hid (ys.length = 1 * 3) := by show _ = _; rw [hy]
  have HY1 : Hid _ := hy1
  have HB : Hid (base ≤ w.heap.size) := hbase
  clear hv hy hy1
  rcases h.2 with ⟨rfl, rfl⟩ | ⟨g, cap, cur, rfl, _, _, hnc, hcm, _⟩
  · clear h
    go_enter Tryz.func212, Tryz.ntmps212
    go_wp2_with (at_builtin; refine wpList_append_own_at _ rfl _ _ 232 rfl base 230 i0 (.agg #[.int .i64 0, .int .i64 0, .string (str [])]) 3 32 Tryz.underlying232 hi0 hz0 hzs hzb rfl (by decide) _ _ _ rfl HO.out ⟨vb, 0, none⟩ 1 1 ys rfl HY.out HV.out HY1.out (by decide) (by omega) HB.out ?_)
    intro v' w1 hown hgrow _ hat
    obtain ⟨ao', m', c', rfl⟩ := own_any hown
    have HW : Hid _ := hown
    clear hown
    go_wp2
    go_ret
    exact ⟨_, rfl, hat, HW.out, Fr.grown hgrow (fun k hk => hk)⟩
  · clear h
    have hcm' : cap ≤ 9223372036854775807 := by unfold maxLen at hcm; omega
    clear hcm
    go_enter Tryz.func212, Tryz.ntmps212
    go_wp2_with (at_builtin; refine wpList_append_own_at _ rfl _ _ 232 rfl base 230 i0 (.agg #[.int .i64 0, .int .i64 0, .string (str [])]) 3 32 Tryz.underlying232 hi0 hz0 hzs hzb rfl (by decide) _ _ _ rfl HO.out ⟨vb, 0, none⟩ 1 1 ys rfl HY.out HV.out HY1.out (by unfold maxLen; omega) (by omega) HB.out ?_)
    all_goals
      intro v' w1 hown hgrow _ hat
      obtain ⟨ao', m', c', rfl⟩ := own_any hown
      have HW : Hid _ := hown
      clear hown
      go_wp2
      go_ret
      exact ⟨_, rfl, hat, HW.out, Fr.grown hgrow (fun k hk => hk)⟩
/-- slices.Insert of one element into a row of one's own. -/
theorem insQ_any {w : World} {base vb : Nat} {v : Value} {n : Nat} {xs ys : List Value} (h : w.ownsRow base 230 3 v n xs) (h1 : ∀ u ∈ xs, u.oneCell' = true) (i : Nat) (hi : i ≤ n) (hbase : base ≤ w.heap.size) (hbig : (n + 1) * 32 ≤ 140737488355328)
    (hv : w.heap[vb]? = some (.cells ys.toArray 230 (0, 0))) (hy : ys.length = 3) (hy1 : ∀ u ∈ ys, u.oneCell' = true) (hne : v.ownBlock ≠ some vb) :
    Calls Tryz.prog 212 #[v, .int .i64 i, .slice (some ⟨vb, 0, none⟩) 1 1] w fun e w' =>
      ∃ v', e = .returned v' ∧ (v'.ownBlock = v.ownBlock ∨ v'.ownBlock = some w.heap.size) ∧ w'.ownsRow base 230 3 v' (n + 1) (xs.take (i * 3) ++ ys ++ xs.drop (i * 3)) ∧ Fr w w' (fun k => v.ownBlock = some k) := by
  have hxl := h.1
  by_cases hin : i = n
  · subst hin
    have e : xs.take (i * 3) ++ ys ++ xs.drop (i * 3) = xs ++ ys := by rw [List.take_of_length_le (by omega), List.drop_of_length_le (by omega), List.append_nil]
    rw [e]
    exact insQ_end h hbase hbig hv hy hy1
  · obtain ⟨g, cap, cur, rfl, hn, hB, rfl⟩ := own_blk h (by omega)
    have hcl := hB.size
    have hnk : n * 3 ≤ cap * 3 := Nat.mul_le_mul_right _ hn
    have hlen : ((cur.take (n * 3)).drop (i * 3)).length = (n - i) * 3 := by rw [List.length_drop, hxl]; omega
    by_cases hroom : n + 1 ≤ cap
    · refine (insQ_shift hB n i (by omega) hroom h1 hv hy hy1 (fun e => hne (by rw [e]; rfl))).mono ?_
      rintro e w' ⟨rfl, rfl⟩
      have hB2 := (hB.drew.set ((i + 1) * 3) _ (by rw [hlen]; omega)).set (i * 3) ys (by omega)
      refine ⟨_, rfl, .inl rfl, ?_, ?_⟩
      · have := hB2.own hroom
        rw [ins_list (k := 3) hi (by omega) hy] at this
        exact this
      · exact ((Fr.drew w _).trans (fr_setCells g (S := fun k => Value.ownBlock (.slice (some ⟨g, 0, none⟩) n cap) = some k) rfl _ _ _) (fun _ _ h => h)).trans (fr_setCells g (S := fun k => Value.ownBlock (.slice (some ⟨g, 0, none⟩) n cap) = some k) rfl _ _ _) (fun _ _ h => h)
    · refine (insQ_grow hB n i (by omega) hn (by omega) hbig h1 hv hy hy1).mono ?_
      rintro e w' ⟨G, zs, rfl, hG, hGm, hl, rfl⟩
      have hB0 : Blk (w.alloc (.cells ((cur.take (n * 3)).take (i * 3) ++ zs).toArray 230)).drew base 230 3 w.heap.size G ((cur.take (n * 3)).take (i * 3) ++ zs) := ⟨hbase, heap_alloc_new w _, hGm, hl⟩
      have hB2 := (hB0.set (i * 3) ys (by omega)).drew.set ((i + 1) * 3) ((cur.take (n * 3)).drop (i * 3)) (by rw [hlen]; omega)
      refine ⟨_, rfl, .inr rfl, ?_, ?_⟩
      · have := hB2.own hG
        rw [grow_list (k := 3) hi hxl (by omega) hy] at this
        exact this
      · have f0 : Fr w (w.alloc (.cells ((cur.take (n * 3)).take (i * 3) ++ zs).toArray 230)).drew (fun k => Value.ownBlock (.slice (some ⟨g, 0, none⟩) n cap) = some k) := (Fr.alloc w _ _).trans (Fr.drew _ _) (fun _ _ h => h)
        have f1 := f0.trans (fr_setCells w.heap.size (S := fun k => k = w.heap.size) rfl ys (i * 3) _) (fun k hk e => by omega)
        exact (f1.trans (Fr.drew _ (fun _ => False)) (fun _ _ h => h.elim)).trans (fr_setCells w.heap.size (S := fun k => k = w.heap.size) rfl _ ((i + 1) * 3) _) (fun k hk e => by omega)
/-- One request put at its place into a row of one's own. -/
theorem insert_any {w : World} {B vb : Nat} {v : Value} {L : List Req} {x : Req} (h : RqO 230 w B v L) (i : Nat) (hi : i ≤ L.length) (hB : B ≤ w.heap.size) (hl : L.length ≤ 1000000)
    (hv : w.heap[vb]? = some (.cells #[.int .i64 x.k, .int .i64 x.n, .string x.s] 230 (0, 0))) (hne : v.ownBlock ≠ some vb) :
    Calls Tryz.prog 212 #[v, .int .i64 i, .slice (some ⟨vb, 0, none⟩) 1 1] w fun e w' =>
      ∃ v', e = .returned v' ∧ RqO 230 w' B v' (L.take i ++ x :: L.drop i) ∧ Fr w w' (fun k => v.ownBlock = some k) ∧ Row w v v' := by
  refine (insQ_any (ys := rq x) h (rq_one L) i hi hB (by omega) hv rfl (by intro u hu; simp only [rq, List.mem_cons, List.not_mem_nil, or_false] at hu; rcases hu with rfl | rfl | rfl <;> rfl) hne).mono ?_
  rintro e w' ⟨v', rfl, hat, hown, hf⟩
  refine ⟨v', rfl, ?_, hf, ?_⟩
  · unfold RqO
    have e1 : (L.take i ++ x :: L.drop i).length = L.length + 1 := by
      rw [List.length_append, List.length_take, List.length_cons, List.length_drop]
      omega
    rw [e1, List.flatMap_append, List.flatMap_cons, ← rq_take, ← rq_drop, ← List.append_assoc]
    exact hown
  · rcases hat with hat | hat
    · exact .inl hat
    · exact .inr ⟨_, hat, Nat.le_refl _⟩
end Go.Proofs.YtidghoipmggklaaGreat
end
