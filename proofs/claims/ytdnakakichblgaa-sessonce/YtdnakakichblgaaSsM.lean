/- Sessions on plain data: rows sorted by sessions, where one stands, its last request, how one is put. -/
import Derived.Test.YtdnakakichblgaaStr
namespace Go.Proofs.Ytdnakakichblgaa
/-- A session's last request. -/
structure Req where
  k : Int
  n : Int
  s : ByteArray
/-- Sessions rise. -/
def RiseQ (L : List Req) : Prop := L.Pairwise (fun x y => x.k < y.k)
/-- How many stand ahead. -/
def posR (L : List Req) (k : Int) : Nat := L.countP (fun x => decide (x.k < k))
def isR (L : List Req) (k : Int) : Bool := match L[posR L k]? with | some x => decide (x.k = k) | none => false
def lastR (L : List Req) (k : Int) : Req := match L[posR L k]? with | some x => (if x.k = k then x else ⟨k, 0, str []⟩) | none => ⟨k, 0, str []⟩
def putR (L : List Req) (a : Req) : List Req := if isR L a.k = true then L.set (posR L a.k) a else L.take (posR L a.k) ++ a :: L.drop (posR L a.k)
theorem posR_le (L : List Req) (k : Int) : posR L k ≤ L.length := List.countP_le_length
theorem posR_all {L : List Req} {k : Int} (h : ∀ x ∈ L, x.k < k) : posR L k = L.length := List.countP_eq_length.2 fun x hx => by simpa using h x hx
theorem posR_none {L : List Req} {k : Int} (h : ∀ x ∈ L, ¬ x.k < k) : posR L k = 0 := List.countP_eq_zero.2 fun x hx => by simpa using h x hx
/-- A place that parts the row is where it stands. -/
theorem posR_at {A C : List Req} {k : Int} (hA : ∀ x ∈ A, x.k < k) (hC : ∀ x ∈ C, ¬ x.k < k) : posR (A ++ C) k = A.length := by
  unfold posR
  rw [List.countP_append]
  have h1 := posR_all hA
  have h2 := posR_none hC
  unfold posR at h1 h2
  omega
theorem posR_parts {L : List Req} (h : RiseQ L) (k : Int) : (∀ x ∈ L.take (posR L k), x.k < k) ∧ (∀ x ∈ L.drop (posR L k), ¬ x.k < k) := by
  induction L with
  | nil => exact ⟨fun x hx => by simp at hx, fun x hx => by simp at hx⟩
  | cons a r ih =>
    obtain ⟨h1, h2⟩ := List.pairwise_cons.1 h
    by_cases ha : a.k < k
    · have e : posR (a :: r) k = posR r k + 1 := by
        unfold posR
        rw [List.countP_cons_of_pos (by simpa using ha)]
      rw [e]
      obtain ⟨i1, i2⟩ := ih h2
      exact ⟨fun x hx => by
        rw [List.take_succ_cons, List.mem_cons] at hx
        rcases hx with rfl | hx
        · exact ha
        · exact i1 x hx, fun x hx => i2 x (by simpa using hx)⟩
    · have hn : ∀ x ∈ a :: r, ¬ x.k < k := fun x hx => by
        rcases List.mem_cons.1 hx with rfl | hx
        · exact ha
        · have := h1 x hx
          omega
      rw [posR_none hn]
      exact ⟨fun x hx => by simp at hx, fun x hx => hn x (by simpa using hx)⟩
/-- A row is parted by a session: those below, itself if it is there, those above. -/
theorem parts {L : List Req} (h : RiseQ L) (k : Int) : (∃ A a C, L = A ++ a :: C ∧ a.k = k ∧ (∀ x ∈ A, x.k < k) ∧ (∀ x ∈ C, k < x.k)) ∨ (∃ A C, L = A ++ C ∧ (∀ x ∈ A, x.k < k) ∧ (∀ x ∈ C, k < x.k)) := by
  obtain ⟨h1, h2⟩ := posR_parts h k
  have e : L = L.take (posR L k) ++ L.drop (posR L k) := (List.take_append_drop _ _).symm
  generalize L.take (posR L k) = A at e h1
  generalize L.drop (posR L k) = C at e h2
  subst e
  have hC : RiseQ C := (List.pairwise_append.1 h).2.1
  cases C with
  | nil => exact .inr ⟨A, [], rfl, h1, fun x hx => by simp at hx⟩
  | cons a C =>
    have ha := h2 a (by simp)
    have hc := (List.pairwise_cons.1 hC).1
    by_cases e : a.k = k
    · exact .inl ⟨A, a, C, rfl, e, h1, fun x hx => by have := hc x hx; omega⟩
    · refine .inr ⟨A, a :: C, rfl, h1, fun x hx => ?_⟩
      rcases List.mem_cons.1 hx with rfl | hx
      · omega
      · have := hc x hx
        omega
section
variable {A C : List Req} {a : Req} {k : Int}
theorem in_pos (hA : ∀ x ∈ A, x.k < a.k) (hC : ∀ x ∈ C, a.k < x.k) : posR (A ++ a :: C) a.k = A.length :=
  posR_at hA fun x hx => by
    rcases List.mem_cons.1 hx with rfl | hx
    · omega
    · have := hC x hx
      omega
theorem in_is (hA : ∀ x ∈ A, x.k < a.k) (hC : ∀ x ∈ C, a.k < x.k) : isR (A ++ a :: C) a.k = true := by
  unfold isR
  rw [in_pos hA hC, List.getElem?_append_right (Nat.le_refl _)]
  simp
theorem in_last (hA : ∀ x ∈ A, x.k < a.k) (hC : ∀ x ∈ C, a.k < x.k) : lastR (A ++ a :: C) a.k = a := by
  unfold lastR
  rw [in_pos hA hC, List.getElem?_append_right (Nat.le_refl _)]
  simp
theorem out_pos (hA : ∀ x ∈ A, x.k < k) (hC : ∀ x ∈ C, k < x.k) : posR (A ++ C) k = A.length :=
  posR_at hA fun x hx => by have := hC x hx; omega
theorem out_is (hA : ∀ x ∈ A, x.k < k) (hC : ∀ x ∈ C, k < x.k) : isR (A ++ C) k = false := by
  unfold isR
  rw [out_pos hA hC, List.getElem?_append_right (Nat.le_refl _)]
  cases C with
  | nil => simp
  | cons c r =>
    have := hC c (by simp)
    simp
    omega
theorem out_last (hA : ∀ x ∈ A, x.k < k) (hC : ∀ x ∈ C, k < x.k) : lastR (A ++ C) k = ⟨k, 0, str []⟩ := by
  unfold lastR
  rw [out_pos hA hC, List.getElem?_append_right (Nat.le_refl _)]
  cases C with
  | nil => simp
  | cons c r =>
    have := hC c (by simp)
    simp
    intro h
    omega
end
theorem in_put {A C : List Req} {a b : Req} (hb : b.k = a.k) (hA : ∀ x ∈ A, x.k < a.k) (hC : ∀ x ∈ C, a.k < x.k) : putR (A ++ a :: C) b = A ++ b :: C := by
  unfold putR
  rw [hb, in_is hA hC, in_pos hA hC]
  simp
theorem out_put {A C : List Req} {a : Req} (hA : ∀ x ∈ A, x.k < a.k) (hC : ∀ x ∈ C, a.k < x.k) : putR (A ++ C) a = A ++ a :: C := by
  unfold putR
  rw [out_is hA hC, out_pos hA hC]
  simp
/-- What is put, by parts: a row that holds it between those below and those above. -/
theorem put_parts {L : List Req} (h : RiseQ L) (a : Req) : ∃ A C, putR L a = A ++ a :: C ∧ (∀ x ∈ A, x.k < a.k) ∧ (∀ x ∈ C, a.k < x.k) ∧ RiseQ A ∧ RiseQ C ∧ (∀ x ∈ A, x ∈ L) ∧ (∀ x ∈ C, x ∈ L) := by
  rcases parts h a.k with ⟨A, b, C, rfl, e, hA, hC⟩ | ⟨A, C, rfl, hA, hC⟩
  · rw [← e] at hA hC
    refine ⟨A, C, in_put e.symm hA hC, e ▸ hA, e ▸ hC, (List.pairwise_append.1 h).1, (List.pairwise_cons.1 (List.pairwise_append.1 h).2.1).2, fun x hx => by simp [hx], fun x hx => by simp [hx]⟩
  · exact ⟨A, C, out_put hA hC, hA, hC, (List.pairwise_append.1 h).1, (List.pairwise_append.1 h).2.1, fun x hx => by simp [hx], fun x hx => by simp [hx]⟩
theorem rise_parts {A C : List Req} {a : Req} (h1 : RiseQ A) (h2 : RiseQ C) (hA : ∀ x ∈ A, x.k < a.k) (hC : ∀ x ∈ C, a.k < x.k) : RiseQ (A ++ a :: C) :=
  List.pairwise_append.2 ⟨h1, List.pairwise_cons.2 ⟨hC, h2⟩, fun x hx y hy => by
    have := hA x hx
    rcases List.mem_cons.1 hy with rfl | hy
    · exact this
    · have := hC y hy
      omega⟩
theorem put_rise {L : List Req} (h : RiseQ L) (a : Req) : RiseQ (putR L a) := by
  obtain ⟨A, C, e, hA, hC, h1, h2, _⟩ := put_parts h a
  rw [e]
  exact rise_parts h1 h2 hA hC
theorem put_mem {L : List Req} (h : RiseQ L) {a x : Req} (hx : x ∈ putR L a) : x = a ∨ x ∈ L := by
  obtain ⟨A, C, e, _, _, _, _, h3, h4⟩ := put_parts h a
  rw [e] at hx
  rcases List.mem_append.1 hx with hx | hx
  · exact .inr (h3 x hx)
  · rcases List.mem_cons.1 hx with rfl | hx
    · exact .inl rfl
    · exact .inr (h4 x hx)
theorem put_last {L : List Req} (h : RiseQ L) (a : Req) : lastR (putR L a) a.k = a := by
  obtain ⟨A, C, e, hA, hC, _⟩ := put_parts h a
  rw [e]
  exact in_last hA hC
theorem put_is {L : List Req} (h : RiseQ L) (a : Req) : isR (putR L a) a.k = true := by
  obtain ⟨A, C, e, hA, hC, _⟩ := put_parts h a
  rw [e]
  exact in_is hA hC
theorem put_put {L : List Req} (h : RiseQ L) {a b : Req} (e : b.k = a.k) : putR (putR L a) b = putR L b := by
  rcases parts h a.k with ⟨A, c, C, rfl, ec, hA, hC⟩ | ⟨A, C, rfl, hA, hC⟩
  · rw [← ec] at hA hC
    rw [in_put ec.symm hA hC, in_put (e.trans ec.symm) hA hC, in_put e (ec ▸ hA) (ec ▸ hC)]
  · rw [out_put hA hC, in_put e hA hC, out_put (e ▸ hA) (e ▸ hC)]
theorem put_len (L : List Req) (a : Req) : (putR L a).length = L.length + (if isR L a.k = true then 0 else 1) := by
  have := posR_le L a.k
  unfold putR
  split
  · rw [List.length_set]
    omega
  · rw [List.length_append, List.length_take, List.length_cons, List.length_drop]
    omega
theorem is_last {L : List Req} (h : RiseQ L) (h1 : ∀ x ∈ L, 1 ≤ x.n) (k : Int) : isR L k = true ↔ (lastR L k).n ≠ 0 := by
  rcases parts h k with ⟨A, c, C, rfl, rfl, hA, hC⟩ | ⟨A, C, rfl, hA, hC⟩
  · rw [in_is hA hC, in_last hA hC]
    have := h1 c (by simp)
    constructor
    · intro _; omega
    · intro _; rfl
  · rw [out_is hA hC, out_last hA hC]
    simp
theorem last_ge {L : List Req} (h : RiseQ L) (h1 : ∀ x ∈ L, 1 ≤ x.n) (k : Int) : 0 ≤ (lastR L k).n := by
  rcases parts h k with ⟨A, c, C, rfl, rfl, hA, hC⟩ | ⟨A, C, rfl, hA, hC⟩
  · rw [in_last hA hC]
    have := h1 c (by simp)
    omega
  · rw [out_last hA hC]
    exact Int.le_refl _
/-- What Look tells. -/
def lookR (L : List Req) (k n : Int) : ByteArray × Bool × Int :=
  if n < 1 then (str [], false, 1)
  else if n = (lastR L k).n then ((lastR L k).s, true, 0)
  else if n < (lastR L k).n then (str [], false, 150)
  else if (lastR L k).n < n - 1 then (str [], false, 151)
  else if (lastR L k).n = 0 ∧ 64 ≤ L.length then (str [], false, 3)
  else (str [], false, 0)
/-- Whether a request is done. -/
def freshR (L : List Req) (k n : Int) : Prop := (lookR L k n).2.1 = false ∧ (lookR L k n).2.2 = 0
/-- A table as it may be. -/
structure Tab (L : List Req) : Prop where
  rise : RiseQ L
  one : ∀ x ∈ L, 1 ≤ x.n
  few : L.length ≤ 64
theorem Tab.nil : Tab [] := ⟨List.Pairwise.nil, fun x hx => by simp at hx, by simp⟩
theorem fresh_is {L : List Req} {k n : Int} (h : freshR L k n) : 1 ≤ n ∧ n = (lastR L k).n + 1 ∨ 1 ≤ n ∧ (lastR L k).n < n ∧ n - 1 ≤ (lastR L k).n := by
  unfold freshR lookR at h
  split at h
  · simp at h
  · split at h
    · simp at h
    · split at h
      · simp at h
      · split at h
        · simp at h
        · right
          omega
theorem Tab.put {L : List Req} (h : Tab L) {k n : Int} (s : ByteArray) (hf : freshR L k n) : Tab (putR L ⟨k, n, s⟩) := by
  have hn : 1 ≤ n := by rcases fresh_is hf with h | h <;> omega
  refine ⟨put_rise h.rise _, fun x hx => ?_, ?_⟩
  · rcases put_mem h.rise hx with rfl | hx
    · exact hn
    · exact h.one x hx
  · rw [put_len]
    have h64 := h.few
    split
    · omega
    · rename_i hi
      have h0 : (lastR L k).n = 0 := by
        have := (is_last h.rise h.one k)
        by_cases e : (lastR L k).n = 0
        · exact e
        · exact absurd (this.2 e) hi
      unfold freshR lookR at hf
      split at hf
      · simp at hf
      · split at hf
        · simp at hf
        · split at hf
          · simp at hf
          · split at hf
            · simp at hf
            · split at hf
              · simp at hf
              · rename_i h5
                omega
end Go.Proofs.Ytdnakakichblgaa
