import Derived.Test.YtidghoipmggklaaGreatNumW2M
import Derived.Test.YtidghoipmggklaaGreatFoldWM
import Derived.OneCell
/- What a writer's methods do to the writer that they are called on. -/
namespace Go.Proofs.YtidghoipmggklaaGreat
open Go.RowKit

/-- A writer lies at block p: its slice v holds the bytes l, in a row of its own from 'base' on. -/
structure Wr (w : World) (base p : Nat) (v : Value) (l : List UInt8) : Prop where
  blk : w.heap[p]? = some (.cells #[v] 120 (0, 0))
  own : w.ownsRow base 5 1 v l.length (bc l)
  apart : v.ownBlock ≠ some p
  low : base ≤ w.heap.size
theorem Wr.lt {w : World} {base p : Nat} {v : Value} {l : List UInt8} (h : Wr w base p v l) : p < w.heap.size := lt_of_block h.blk
theorem Wr.kept {w w' : World} {base p : Nat} {v : Value} {l : List UInt8} {S : Nat → Prop} (h : Wr w base p v l) (f : Fr w w' S) (h1 : ¬ S p) (h2 : ∀ k, v.ownBlock = some k → ¬ S k) : Wr w' base p v l := by
  refine ⟨(f.block p h.lt h1).trans h.blk, ⟨h.own.1, ?_⟩, h.apart, Nat.le_trans h.low f.size⟩
  rcases h.own.2 with hn | ⟨g, cap, cur, rfl, hb, hgg, rest⟩
  · exact Or.inl hn
  · exact Or.inr ⟨g, cap, cur, rfl, hb, (f.block g (lt_of_block hgg) (h2 g rfl)).trans hgg, rest⟩
theorem own_shape {w : World} {base : Nat} {e : TypeId} {size : Nat} {v : Value} {n : Nat} {xs : List Value} (h : w.ownsRow base e size v n xs) : ∃ ao c, v = .slice ao n c := by
  rcases h.2 with ⟨rfl, rfl⟩ | ⟨g, cap, cur, rfl, _⟩
  · exact ⟨_, _, rfl⟩
  · exact ⟨_, _, rfl⟩
theorem own_any {w : World} {base : Nat} {e : TypeId} {size : Nat} {v : Value} {n : Nat} {xs : List Value} (h : w.ownsRow base e size v n xs) : ∃ ao m c, v = .slice ao m c := by
  obtain ⟨ao, c, rfl⟩ := own_shape h
  exact ⟨_, _, _, rfl⟩
/-- Behind the growing of the row and the store of the slice: the writer, what is left alone, where the row is. -/
theorem Wr.stored {w w1 : World} {base p : Nat} {v v' : Value} {l l' : List UInt8} (h : Wr w base p v l) (f : Fr w w1 (fun k => v.ownBlock = some k)) (ho : w1.ownsRow base 5 1 v' l'.length (bc l')) (hr : Row w v v') :
    Wr (w1.setCell ⟨p, 0, none⟩ v') base p v' l' ∧ Fr w (w1.setCell ⟨p, 0, none⟩ v') (fun k => k = p ∨ v.ownBlock = some k) := by
  have hp : v'.ownBlock ≠ some p := by
    rcases hr with h1 | ⟨g, h1, hg⟩
    · rw [h1]; exact h.apart
    · rw [h1]; intro e; cases e; have := h.lt; omega
  have hb : w1.heap[p]? = some (.cells #[v] 120 (0, 0)) := (f.block p h.lt h.apart).trans h.blk
  refine ⟨⟨one_setCell hb, ownsRow_setCell_other ho hp _, hp, ?_⟩, (f.mono (fun _ _ h => Or.inr h)).trans (Fr.setCell (S := fun k => k = p) w1 ⟨p, 0, none⟩ v' rfl) (fun _ _ h => Or.inl h)⟩
  have := h.low
  have := f.size
  simp [World.setCell]; omega
theorem Fr.frame2 {w w1 w2 : World} {p : Nat} {v v1 : Value} (h1 : Fr w w1 (fun k => k = p ∨ v.ownBlock = some k)) (r1 : Row w v v1) (h2 : Fr w1 w2 (fun k => k = p ∨ v1.ownBlock = some k)) : Fr w w2 (fun k => k = p ∨ v.ownBlock = some k) := by
  refine h1.trans h2 (fun i hi hs => ?_)
  rcases hs with rfl | hs
  · exact Or.inl rfl
  · rcases r1 with e | ⟨g, e, hg⟩
    · right; rw [← e]; exact hs
    · rw [e] at hs; cases hs; omega

theorem newwriter_any (w : World) : Calls Tryz.prog 13 #[] w fun r w' => r = .returned (.pointer (some ⟨w.heap.size, 0, none⟩)) ∧ Wr w' (w.heap.size + 1) w.heap.size (.slice none 0 0) [] ∧ Below w.heap.size w w' := by
  go_enter Tryz.func13, Tryz.ntmps13
  go_wp2
  go_ret
  exact ⟨rfl, ⟨heap_alloc_new _ _, World.ownsRow_nil _ _ _ _, by simp [Value.ownBlock], by simp⟩, (Below.refl _ _).alloc (Nat.le_refl _) _⟩

set_option maxRecDepth 100000 in
theorem wbytes_any {w : World} {base p : Nat} {v : Value} {l : List UInt8} (s : ByteArray) (h : Wr w base p v l) (hroom : l.length + s.size ≤ 140737488355328) :
    Calls Tryz.prog 113 #[.pointer (some ⟨p, 0, none⟩), .string s] w fun r w' => r = .returned (.tuple #[]) ∧ ∃ v', Wr w' base p v' (l ++ s.data.toList) ∧ Fr w w' (fun k => k = p ∨ v.ownBlock = some k) ∧ Row w v v' := by
  obtain ⟨i0, hi, hz0, hz1, hz2⟩ := info_parts Tryz.infoB
  obtain ⟨ao, c, rfl⟩ := own_shape h.own
  have c0 := cell_of_one h.blk
  go_enter Tryz.func113, Tryz.ntmps113
  go_wp2_with (at_builtin; refine wpList_append_string _ rfl _ _ 118 9 rfl base 5 i0 Tryz.underlying118 Tryz.underlying9 hi hz0 hz1 hz2 _ _ _ rfl h.own s rfl ?c1 ?c2 ?c3 ?_)
  case c1 => unfold maxLen; omega
  case c2 => omega
  case c3 => exact h.low
  · intro v' w1 hown' hgrow hrow
    have hfr : Fr w w1 (fun k => (Value.slice ao l.length c).ownBlock = some k) := Fr.grown hgrow (fun k hk => hk)
    have HO : Hid (w1.ownsRow base 5 1 v' (l ++ s.data.toList).length (bc (l ++ s.data.toList))) := by
      show World.ownsRow _ _ _ _ _ _ _
      rw [List.length_append, bc_append]
      exact hown'
    obtain ⟨bo, m, d, rfl⟩ := own_any HO.out
    have hb1 : w1.heap[p]? = some (.cells #[.slice ao l.length c] 120 (0, 0)) := (hfr.block p h.lt h.apart).trans h.blk
    have c1 := cell_of_one hb1
    have f1 := free_of_one hb1
    clear hown' hgrow hb1
    go_wp2
    go_end0
    have := h.stored hfr HO.out hrow
    exact ⟨rfl, _, this.1, this.2, hrow⟩

set_option maxRecDepth 100000 in
theorem wnumber_any {w : World} {base p : Nat} {v : Value} {l : List UInt8} (n : Nat) (h : Wr w base p v l) (hn : n < 18446744073709551616) (hroom : l.length + 10 ≤ 140737488355328) :
    Calls Tryz.prog 115 #[.pointer (some ⟨p, 0, none⟩), .int .u64 n] w fun r w' => r = .returned (.tuple #[]) ∧ ∃ v', Wr w' base p v' (l ++ numB n) ∧ Fr w w' (fun k => k = p ∨ v.ownBlock = some k) ∧ Row w v v' := by
  obtain ⟨ao, c, rfl⟩ := own_shape h.own
  have c0 := cell_of_one h.blk
  go_enter Tryz.func115, Tryz.ntmps115
  go_wp2_with (go_at_call 168; refine (append_number base _ l n _ hn h.own h.low hroom).mono ?_; rintro r w1 ⟨v', rfl, hown', hfr, hrow⟩; obtain ⟨bo, m, d, rfl⟩ := own_any hown'; have hb1 : w1.heap[p]? = some (.cells #[.slice ao l.length c] 120 (0, 0)) := (hfr.block p h.lt h.apart).trans h.blk; have c1 := cell_of_one hb1; have f1 := free_of_one hb1)
  go_end0
  have := h.stored hfr hown' hrow
  exact ⟨rfl, _, this.1, this.2, hrow⟩
theorem wsigned_any {w : World} {base p : Nat} {v : Value} {l : List UInt8} (k : Int) (h : Wr w base p v l) (h1 : -9223372036854775808 ≤ k) (h2 : k ≤ 9223372036854775807) (hroom : l.length + 10 ≤ 140737488355328) :
    Calls Tryz.prog 52 #[.pointer (some ⟨p, 0, none⟩), .int .i64 k] w fun r w' => r = .returned (.tuple #[]) ∧ ∃ v', Wr w' base p v' (l ++ numB (foldN k).toNat) ∧ Fr w w' (fun k => k = p ∨ v.ownBlock = some k) ∧ Row w v v' := by
  obtain ⟨m, HM⟩ : ∃ m : Nat, Hid (foldN k = m) := ⟨(foldN k).toNat, (Int.toNat_of_nonneg (fold_bd k h1 h2).1).symm⟩
  have hm : m < 18446744073709551616 := by have := fold_bd k h1 h2; have := HM.out; omega
  have hF : ∀ w, Calls Tryz.prog 116 #[.int .i64 k] w fun e w' => e = .returned (.int .u64 m) ∧ w' = w := fun w => by have := fold_any k w h1 h2; rw [HM.out] at this; exact this
  rw [show (foldN k).toNat = m by rw [HM.out]; rfl]
  go_enter Tryz.func52, Tryz.ntmps52
  go_wp2_with (first
    | (go_at_call 116; refine (hF _).mono ?_; rintro r w1 ⟨rfl, rfl⟩)
    | (go_at_call 115; refine (wnumber_any m h hm hroom).mono ?_; rintro r w2 ⟨rfl, hh⟩))
  go_end0
  exact ⟨rfl, hh⟩
theorem wcount_any {w : World} {base p : Nat} {v : Value} {l : List UInt8} (k : Int) (h : Wr w base p v l) (h2 : k ≤ 9223372036854775807) (hroom : l.length + 10 ≤ 140737488355328) :
    Calls Tryz.prog 51 #[.pointer (some ⟨p, 0, none⟩), .int .i64 k] w fun r w' => r = .returned (.tuple #[]) ∧ ∃ v', Wr w' base p v' (l ++ numB k.toNat) ∧ Fr w w' (fun k => k = p ∨ v.ownBlock = some k) ∧ Row w v v' := by
  have hN := wnumber_any k.toNat h (by omega) hroom
  rw [show ((k.toNat : Nat) : Int) = max k 0 by omega] at hN
  go_enter Tryz.func51, Tryz.ntmps51
  go_wp2_with (go_at_call 115; refine hN.mono ?_; rintro r w2 ⟨rfl, hh⟩)
  go_end0
  exact ⟨rfl, hh⟩
/-- A text's bytes. -/
def textB (l : List UInt8) : List UInt8 := numB l.length ++ l
theorem wtext_any {w : World} {base p : Nat} {v : Value} {l : List UInt8} (s : ByteArray) (h : Wr w base p v l) (hroom : l.length + s.size + 10 ≤ 140737488355328) :
    Calls Tryz.prog 49 #[.pointer (some ⟨p, 0, none⟩), .string s] w fun r w' => r = .returned (.tuple #[]) ∧ ∃ v', Wr w' base p v' (l ++ textB s.data.toList) ∧ Fr w w' (fun k => k = p ∨ v.ownBlock = some k) ∧ Row w v v' := by
  have hsz : s.size < 18446744073709551616 := by omega
  have hC := wcount_any (s.size : Int) h (by omega) (by omega)
  have hl : (l ++ numB s.size).length + s.size ≤ 140737488355328 := by have := numB_len10 hsz; rw [List.length_append]; omega
  have HL : Hid _ := hl
  clear hl
  go_enter Tryz.func49, Tryz.ntmps49
  go_wp2_with (first
    | (go_at_call 51; refine hC.mono ?_; rintro r w1 ⟨rfl, v1, hw1, hf1, hr1⟩)
    | (go_at_call 113; refine (wbytes_any s hw1 HL.out).mono ?_; rintro r w2 ⟨rfl, v2, hw2, hf2, hr2⟩))
  go_end0
  refine ⟨rfl, v2, ?_, hf1.frame2 hr1 hf2, hr1.trans hr2 hf1.size⟩
  have e : l ++ textB s.data.toList = l ++ numB s.size ++ s.data.toList := by unfold textB; rw [List.append_assoc]; simp
  rw [e]; exact hw2
theorem wbool_any {w : World} {base p : Nat} {v : Value} {l : List UInt8} (b : Bool) (h : Wr w base p v l) (hroom : l.length + 10 ≤ 140737488355328) :
    Calls Tryz.prog 97 #[.pointer (some ⟨p, 0, none⟩), .bool b] w fun r w' => r = .returned (.tuple #[]) ∧ ∃ v', Wr w' base p v' (l ++ numB b.toNat) ∧ Fr w w' (fun k => k = p ∨ v.ownBlock = some k) ∧ Row w v v' := by
  cases b with
  | false =>
    have hN := wnumber_any 0 h (by decide) hroom
    go_enter Tryz.func97, Tryz.ntmps97
    go_wp2_with (go_at_call 115; refine hN.mono ?_; rintro r w2 ⟨rfl, hh⟩)
    go_end0
    exact ⟨rfl, hh⟩
  | true =>
    have hN := wnumber_any 1 h (by decide) hroom
    go_enter Tryz.func97, Tryz.ntmps97
    go_wp2_with (go_at_call 115; refine hN.mono ?_; rintro r w2 ⟨rfl, hh⟩)
    go_end0
    exact ⟨rfl, hh⟩
theorem wall_any {w : World} {base p : Nat} {v : Value} {l : List UInt8} (h : Wr w base p v l) :
    Calls Tryz.prog 16 #[.pointer (some ⟨p, 0, none⟩)] w fun r w' => r = .returned (.string (str l)) ∧ w' = w := by
  have hc := conv_own h.own
  obtain ⟨ao, c, rfl⟩ := own_shape h.own
  have c0 := cell_of_one h.blk
  go_enter Tryz.func16, Tryz.ntmps16
  go_wp2
  go_ret
  exact ⟨rfl, rfl⟩
end Go.Proofs.YtidghoipmggklaaGreat
