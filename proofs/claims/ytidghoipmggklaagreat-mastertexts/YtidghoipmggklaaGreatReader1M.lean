import Derived.Test.YtidghoipmggklaaGreatParseWM
import Derived.Deep.QuietTactic
import Derived.BigQuiet
import Derived.Deep.RegionWith
/- What a reader's Err, At, Left and next do to the reader that they are called on. -/
namespace Go.Proofs.YtidghoipmggklaaGreat
open Go.RowKit

/-- A reader lies at block p: its bytes, how many were taken, its error. -/
def Rd (w : World) (p : Nat) (s : ByteArray) (a e : Int) : Prop := w.heap[p]? = some (.cells #[.string s, .int .i64 a, .int .i64 e] 126 (0, 0))
section
variable {w : World} {p : Nat} {s : ByteArray} {a e : Int}
theorem Rd.c0 (h : Rd w p s a e) : w.cell? ⟨p, 0, none⟩ = some (.string s) := by unfold Rd at h; simp [World.cell?, h]
theorem Rd.c1 (h : Rd w p s a e) : w.cell? ⟨p, 1, none⟩ = some (.int .i64 a) := by unfold Rd at h; simp [World.cell?, h]
theorem Rd.c2 (h : Rd w p s a e) : w.cell? ⟨p, 2, none⟩ = some (.int .i64 e) := by unfold Rd at h; simp [World.cell?, h]
theorem Rd.f1 (h : Rd w p s a e) : w.frozen? ⟨p, 1, none⟩ = false := by unfold Rd at h; simp [World.frozen?, h]
theorem Rd.f2 (h : Rd w p s a e) : w.frozen? ⟨p, 2, none⟩ = false := by unfold Rd at h; simp [World.frozen?, h]
theorem Rd.lt (h : Rd w p s a e) : p < w.heap.size := lt_of_block h
theorem Rd.set1 (h : Rd w p s a e) (b : Int) : Rd (w.setCell ⟨p, 1, none⟩ (.int .i64 b)) p s b e := by
  have hlt := h.lt
  have h' : w.heap[p] = .cells #[.string s, .int .i64 a, .int .i64 e] 126 (0, 0) := by unfold Rd at h; simpa [Array.getElem?_eq_getElem hlt] using h
  show (w.heap.modify p _)[p]? = _
  rw [Array.getElem?_eq_getElem (by simpa using hlt), Array.getElem_modify_self, h']
  rfl
theorem Rd.set2 (h : Rd w p s a e) (b : Int) : Rd (w.setCell ⟨p, 2, none⟩ (.int .i64 b)) p s a b := by
  have hlt := h.lt
  have h' : w.heap[p] = .cells #[.string s, .int .i64 a, .int .i64 e] 126 (0, 0) := by unfold Rd at h; simpa [Array.getElem?_eq_getElem hlt] using h
  show (w.heap.modify p _)[p]? = _
  rw [Array.getElem?_eq_getElem (by simpa using hlt), Array.getElem_modify_self, h']
  rfl
theorem Rd.kept (h : Rd w p s a e) {w' : World} {S : Nat → Prop} (f : Fr w w' S) (hn : ¬ S p) : Rd w' p s a e := (f.block p h.lt hn).trans h
theorem Rd.below (h : Rd w p s a e) {w' : World} (b : Below w.heap.size w w') : Rd w' p s a e := (b.block p h.lt).trans h
end

theorem err_any {w : World} {p : Nat} {s : ByteArray} {a e : Int} (h : Rd w p s a e) :
    Calls Tryz.prog 58 #[.pointer (some ⟨p, 0, none⟩)] w fun r w' => r = .returned (.int .i64 e) ∧ w' = w := by
  have c2 := h.c2
  go_enter Tryz.func58, Tryz.ntmps58
  go_wp2
  go_ret
  exact ⟨rfl, rfl⟩
theorem left_any {w : World} {p : Nat} {s : ByteArray} {a : Nat} {e : Int} (h : Rd w p s a e) (hs : s.size ≤ maxLen) (ha : a ≤ s.size) :
    Calls Tryz.prog 19 #[.pointer (some ⟨p, 0, none⟩)] w fun r w' => r = .returned (.int .i64 (s.size - a)) ∧ ∃ n, w' = w.drewN n := by
  unfold maxLen at hs
  have c0 := h.c0
  have c1 := h.c1
  go_enter Tryz.func19, Tryz.ntmps19
  go_wp2
  go_quiet (fail)
  go_wp2
  go_ret
  exact ⟨rfl, nq, rfl⟩

theorem ext_data (s : ByteArray) (a : Nat) : (s.extract a s.size).data.toList = s.data.toList.drop a := by
  simp [List.take_of_length_le]
theorem ext_size (s : ByteArray) (a : Nat) (hs : s.size ≤ maxLen) : (s.extract a s.size).size ≤ maxLen := by
  rw [ByteArray.size_extract]; omega
theorem parse_ext {s : ByteArray} {a n k x : Nat} (w : World) (hs : s.size ≤ maxLen) (hp : pnum (s.data.toList.drop a) = (n, k, x)) :
    Calls Tryz.prog 169 #[.string (s.extract a s.size)] w fun e w' => e = .returned (.tuple #[.int .u64 n, .int .i64 k, .int .i64 x]) ∧ w' = w := by
  have h := parse_any (s.extract a s.size) w (ext_size s a hs)
  rw [ext_data, hp] at h
  exact h
theorem Rd.drewN {w : World} {p : Nat} {s : ByteArray} {a e : Int} (h : Rd w p s a e) (n : Nat) : Rd (w.drewN n) p s a e := by unfold Rd; rw [World.heap_drewN]; exact h
theorem Fr.drewN (w : World) (n : Nat) (S : Nat → Prop) : Fr w (w.drewN n) S := by
  induction n with
  | zero => exact Fr.refl _ _
  | succ n ih => exact ih.trans (Fr.drew (w.drewN n) S) (fun _ _ h => h)

set_option maxRecDepth 100000 in
theorem next_err {w : World} {p : Nat} {s : ByteArray} {a : Nat} {e : Int} (h : Rd w p s a e) (he : e ≠ 0) :
    Calls Tryz.prog 117 #[.pointer (some ⟨p, 0, none⟩)] w fun r w' => r = .returned (.tuple #[.int .u64 0, .int .i64 0, .bool false]) ∧ w' = w := by
  have he0 : (e == 0) = false := by simp; omega
  go_enter Tryz.func117, Tryz.ntmps117
  go_wp2_with (go_at_call 58; refine (err_any h).mono ?_; rintro r w1 ⟨rfl, rfl⟩)
  go_ret3
  exact ⟨rfl, rfl⟩
set_option maxRecDepth 100000 in
theorem next_bad {w : World} {p : Nat} {s : ByteArray} {a : Nat} {n k x : Nat} (h : Rd w p s a 0) (hs : s.size ≤ maxLen) (ha : a ≤ s.size) (hp : pnum (s.data.toList.drop a) = (n, k, x)) (hx : x ≠ 0) :
    Calls Tryz.prog 117 #[.pointer (some ⟨p, 0, none⟩)] w fun r w' => r = .returned (.tuple #[.int .u64 0, .int .i64 0, .bool false]) ∧ Rd w' p s a x ∧ Fr w w' (fun k => k = p) := by
  have HP : Hid (pnum (s.data.toList.drop a) = (n, k, x)) := hp
  have HS : Hid (s.size ≤ maxLen) := hs
  unfold maxLen at hs
  clear hp
  have c0 := h.c0
  have c1 := h.c1
  have f2 := h.f2
  have c2 := h.c2
  have hx0 : ((x : Int) == 0) = false := by simp; omega
  go_enter Tryz.func117, Tryz.ntmps117
  go_wp2_with (go_at_call 58; refine (err_any h).mono ?_; rintro r w1 ⟨rfl, rfl⟩)
  go_quiet ((go_at_call 169; exact Calls.quiet_of_same (parse_ext _ HS.out HP.out)))
  go_wp2
  go_ret3
  exact ⟨rfl, (h.drewN _).set2 _, (Fr.drewN _ _ _).trans (Fr.setCell (S := fun k => k = p) _ _ _ rfl) (fun _ _ h => h)⟩
set_option maxRecDepth 100000 in
theorem next_ok {w : World} {p : Nat} {s : ByteArray} {a : Nat} {n k : Nat} (h : Rd w p s a 0) (hs : s.size ≤ maxLen) (ha : a ≤ s.size) (hp : pnum (s.data.toList.drop a) = (n, k, 0)) (hk : a + k ≤ s.size) :
    Calls Tryz.prog 117 #[.pointer (some ⟨p, 0, none⟩)] w fun r w' => r = .returned (.tuple #[.int .u64 n, .int .i64 (a + k), .bool true]) ∧ ∃ n, w' = w.drewN n := by
  have HP : Hid (pnum (s.data.toList.drop a) = (n, k, 0)) := hp
  have HS : Hid (s.size ≤ maxLen) := hs
  unfold maxLen at hs
  clear hp
  have c0 := h.c0
  have c1 := h.c1
  have c2 := h.c2
  go_enter Tryz.func117, Tryz.ntmps117
  go_wp2_with (go_at_call 58; refine (err_any h).mono ?_; rintro r w1 ⟨rfl, rfl⟩)
  go_quiet ((go_at_call 169; exact Calls.quiet_of_same (parse_ext _ HS.out HP.out)))
  go_wp2
  go_quiet (fail)
  go_wp2
  go_ret3
  exact ⟨rfl, _, World.drewN_drewN _ _ _⟩
end Go.Proofs.YtidghoipmggklaaGreat
