import Derived.Test.YtjemnkijoiehmaaGreatDoorReader1M
import Derived.Test.YtjemnkijoiehmaaGreatDoorReadSpecM
import Derived.Test.YtjemnkijoiehmaaGreatDoorProg
import Derived.Laws.BitsAllLaws
import Derived.WalkKit
import Derived.WalkSpells
import Derived.WalkLawsBesides
/- What a reader's methods do to the reader that they are called on, and what they answer. -/
namespace Go.Proofs.YtjemnkijoiehmaaGreatDoor
open Go.RowKit

set_option maxRecDepth 100000 in
theorem rtext_any {w : World} {p : Nat} {s : ByteArray} {a : Nat} {e : Int} (h : Rd w p s a e) (hs : s.size ≤ maxLen) (ha : a ≤ s.size) :
    Calls Tryz.prog 47 #[.pointer (some ⟨p, 0, none⟩)] w fun r w' => r = .returned (.string (rdText s a e).1) ∧ Rd w' p s (rdText s a e).2.1 (rdText s a e).2.2 ∧ Fr w w' (fun k => k = p) := by
  by_cases he : e = 0
  · subst he
    rcases three s a ha with ⟨n, k, hp, h1, h2, h3, h4⟩ | ⟨n, k, x, hp, hx⟩
    · have HP : Hid (pnum (s.data.toList.drop a) = (n, k, 0)) := hp
      have hs' := hs
      unfold maxLen at hs'
      have f1 := h.f1
      have c1 := h.c1
      have f2 := h.f2
      have c2 := h.c2
      have c0 := h.c0
      by_cases hmore : s.size - (a + k) < n
      · have HR : Hid (rdText s a 0 = (ByteArray.empty, a, 4)) := (rd_ok hp).trans (if_pos hmore)
        clear hp
        go_enter Tryz.func47, Tryz.ntmps47
        go_wp2_with (go_at_call 69; refine (next_ok h hs ha HP.out h2).mono ?_; rintro r w1 ⟨rfl, q, rfl⟩)
        go_ret
        rw [HR.out]
        exact ⟨rfl, (h.drewN _).set2 _, (Fr.drewN _ _ _).trans (Fr.setCell (S := fun k => k = p) _ _ _ rfl) (fun _ _ h => h)⟩
      · have HR : Hid (rdText s a 0 = (s.extract (a + k) (a + k + n), a + k + n, 0)) := (rd_ok hp).trans (if_neg hmore)
        clear hp
        go_enter Tryz.func47, Tryz.ntmps47
        go_wp2_with (go_at_call 69; refine (next_ok h hs ha HP.out h2).mono ?_; rintro r w1 ⟨rfl, q, rfl⟩)
        go_quiet (fail)
        go_wp2
        go_ret
        rw [HR.out]
        exact ⟨rfl, ((h.drewN _).set1 _).drewN _, ((Fr.drewN _ _ _).trans (Fr.setCell (S := fun k => k = p) _ _ _ rfl) (fun _ _ h => h)).trans (Fr.drewN _ _ _) (fun _ _ h => h)⟩
    · have HR : Hid (rdText s a 0 = (ByteArray.empty, a, (x : Int))) := rd_bad hp hx
      have HP : Hid (pnum (s.data.toList.drop a) = (n, k, x)) := hp
      clear hp
      go_enter Tryz.func47, Tryz.ntmps47
      go_wp2_with (go_at_call 69; refine (next_bad h hs ha HP.out hx).mono ?_; rintro r w1 ⟨rfl, hr, hf⟩)
      go_ret
      rw [HR.out]
      exact ⟨rfl, hr, hf⟩
  · have HR : Hid (rdText s a e = (ByteArray.empty, a, e)) := rd_err he
    go_enter Tryz.func47, Tryz.ntmps47
    go_wp2_with (go_at_call 69; refine (next_err h he).mono ?_; rintro r w1 ⟨rfl, rfl⟩)
    go_ret
    rw [HR.out]
    exact ⟨rfl, h, Fr.refl _ _⟩

set_option maxRecDepth 100000 in
theorem rbytes_any {w : World} {p : Nat} {s : ByteArray} {a : Nat} {e n : Int} (h : Rd w p s a e) (hs : s.size ≤ maxLen) (ha : a ≤ s.size) :
    Calls Tryz.prog 49 #[.pointer (some ⟨p, 0, none⟩), .int .i64 n] w fun r w' => r = .returned (.string (rdBytes s a e n).1) ∧ Rd w' p s (rdBytes s a e n).2.1 (rdBytes s a e n).2.2 ∧ Fr w w' (fun k => k = p) := by
  by_cases he : e = 0
  · subst he
    have hs' := hs
    unfold maxLen at hs'
    have f1 := h.f1
    have c1 := h.c1
    have f2 := h.f2
    have c2 := h.c2
    have c0 := h.c0
    by_cases hneg : n < 0
    · have HR : Hid (rdBytes s a 0 n = (ByteArray.empty, a, 1)) := by unfold rdBytes; rw [if_pos rfl, if_pos hneg]; exact rfl
      go_enter Tryz.func49, Tryz.ntmps49
      go_wp2_with (go_at_call 50; refine (err_any h).mono ?_; rintro r w1 ⟨rfl, rfl⟩)
      go_ret
      rw [HR.out]
      exact ⟨rfl, h.set2 _, Fr.setCell (S := fun k => k = p) _ _ _ rfl⟩
    · obtain ⟨m, rfl⟩ : ∃ m : Nat, n = m := ⟨n.toNat, by omega⟩
      by_cases hmore : s.size - a < m
      · have HR : Hid (rdBytes s a 0 m = (ByteArray.empty, a, 4)) := by unfold rdBytes; rw [if_pos rfl, if_neg hneg, if_pos (by omega)]; exact rfl
        go_enter Tryz.func49, Tryz.ntmps49
        go_wp2_with (first
          | (go_at_call 50; refine (err_any h).mono ?_; rintro r w1 ⟨rfl, rfl⟩)
          | (go_at_call 70; refine (left_any h hs ha).mono ?_; rintro r w1 ⟨rfl, q, rfl⟩))
        go_ret
        rw [HR.out]
        exact ⟨rfl, (h.drewN _).set2 _, (Fr.drewN _ _ _).trans (Fr.setCell (S := fun k => k = p) _ _ _ rfl) (fun _ _ h => h)⟩
      · have HR : Hid (rdBytes s a 0 m = (s.extract a (a + m), a + m, 0)) := by unfold rdBytes; rw [if_pos rfl, if_neg hneg, if_neg (by omega)]; exact rfl
        go_enter Tryz.func49, Tryz.ntmps49
        go_wp2_with (first
          | (go_at_call 50; refine (err_any h).mono ?_; rintro r w1 ⟨rfl, rfl⟩)
          | (go_at_call 70; refine (left_any h hs ha).mono ?_; rintro r w1 ⟨rfl, q, rfl⟩))
        go_quiet (fail)
        go_wp2
        go_ret
        rw [HR.out]
        exact ⟨rfl, ((h.drewN _).set1 _).drewN _, ((Fr.drewN _ _ _).trans (Fr.setCell (S := fun k => k = p) _ _ _ rfl) (fun _ _ h => h)).trans (Fr.drewN _ _ _) (fun _ _ h => h)⟩
  · have HR : Hid (rdBytes s a e n = (ByteArray.empty, a, e)) := by unfold rdBytes; rw [if_neg he]; exact rfl
    have he0 : (e == 0) = false := by simp; omega
    go_enter Tryz.func49, Tryz.ntmps49
    go_wp2_with (go_at_call 50; refine (err_any h).mono ?_; rintro r w1 ⟨rfl, rfl⟩)
    go_ret
    rw [HR.out]
    exact ⟨rfl, h, Fr.refl _ _⟩

theorem newreader_any (s : ByteArray) (w : World) :
    Calls Tryz.prog 46 #[.string s] w fun r w' => r = .returned (.pointer (some ⟨w.heap.size, 0, none⟩)) ∧ Rd w' w.heap.size s 0 0 ∧ Below w.heap.size w w' := by
  go_enter Tryz.func46, Tryz.ntmps46
  go_wp2
  go_ret
  exact ⟨rfl, heap_alloc_new _ _, (Below.refl _ _).alloc (Nat.le_refl _) _⟩
end Go.Proofs.YtjemnkijoiehmaaGreatDoor
