import Derived.Test.YtnhijofnhflklaaGreatNumW2M
import Derived.OneCell
import Derived.Test.YtnhijofnhflklaaGreatProg
import Derived.Test.YtnhijofnhflklaaGreatGrDataM
import Derived.WalkKit
import Derived.WalkSpells
import Derived.WalkLawsBesides
import Derived.Deep.QuietTactic
import Derived.BigQuiet
import Derived.Deep.RegionWith
import Derived.Deep.RegionHeld
import Derived.Deep.Cut
import Derived.Deep.DeepCutAuto
import Derived.Maps.AppendAt
import Derived.Test.YtnhijofnhflklaaGreatMuCmpM
import Derived.Test.YtnhijofnhflklaaGreatChecked
import Derived.Deep.RegionLaw
section
/- What a writer's methods do to the writer that they are called on. -/
namespace Go.Proofs.YtnhijofnhflklaaGreat
open Go.RowKit

/-- A writer lies at block p: its slice v holds the bytes l, in a row of its own from 'base' on. -/
structure Wr (w : World) (base p : Nat) (v : Value) (l : List UInt8) : Prop where
  blk : w.heap[p]? = some (.cells #[v] 128 (0, 0))
  own : w.ownsRow base 5 1 v l.length (bc l)
  apart : v.ownBlock ≠ some p
  low : base ≤ w.heap.size
theorem Wr.lt {w : World} {base p : Nat} {v : Value} {l : List UInt8} (h : Wr w base p v l) : p < w.heap.size := lt_of_block h.blk
theorem Wr.kept {w w' : World} {base p : Nat} {v : Value} {l : List UInt8} {S : Nat → Prop} (h : Wr w base p v l) (f : Fr w w' S) (h1 : ¬ S p) (h2 : ∀ k, v.ownBlock = some k → ¬ S k) : Wr w' base p v l := by
  refine ⟨(f.block p h.lt h1).trans h.blk, ⟨h.own.1, ?_⟩, h.apart, Nat.le_trans h.low f.size⟩
  rcases h.own.2 with hn | ⟨g, cap, cur, rfl, hb, hgg, rest⟩
  · exact Or.inl hn
  · exact Or.inr ⟨g, cap, cur, rfl, hb, (f.block g (lt_of_block hgg) (h2 g rfl)).trans hgg, rest⟩
theorem own_shape {w : World} {base : Nat} {e : TypeId} {size : Nat} {v : Value} {n : Nat} {xs : List Value} (h : w.ownsRow base e size v n xs) : ∃ ao c, v = .slice ao n c := by
  rcases h.2 with ⟨rfl, rfl⟩ | ⟨g, cap, cur, rfl, _⟩
  · exact ⟨_, _, rfl⟩
  · exact ⟨_, _, rfl⟩
theorem own_any {w : World} {base : Nat} {e : TypeId} {size : Nat} {v : Value} {n : Nat} {xs : List Value} (h : w.ownsRow base e size v n xs) : ∃ ao m c, v = .slice ao m c := by
  obtain ⟨ao, c, rfl⟩ := own_shape h
  exact ⟨_, _, _, rfl⟩
/-- Behind the growing of the row and the store of the slice: the writer, what is left alone, where the row is. -/
theorem Wr.stored {w w1 : World} {base p : Nat} {v v' : Value} {l l' : List UInt8} (h : Wr w base p v l) (f : Fr w w1 (fun k => v.ownBlock = some k)) (ho : w1.ownsRow base 5 1 v' l'.length (bc l')) (hr : Row w v v') :
    Wr (w1.setCell ⟨p, 0, none⟩ v') base p v' l' ∧ Fr w (w1.setCell ⟨p, 0, none⟩ v') (fun k => k = p ∨ v.ownBlock = some k) := by
  have hp : v'.ownBlock ≠ some p := by
    rcases hr with h1 | ⟨g, h1, hg⟩
    · rw [h1]; exact h.apart
    · rw [h1]; intro e; cases e; have := h.lt; omega
  have hb : w1.heap[p]? = some (.cells #[v] 128 (0, 0)) := (f.block p h.lt h.apart).trans h.blk
  refine ⟨⟨one_setCell hb, ownsRow_setCell_other ho hp _, hp, ?_⟩, (f.mono (fun _ _ h => Or.inr h)).trans (Fr.setCell (S := fun k => k = p) w1 ⟨p, 0, none⟩ v' rfl) (fun _ _ h => Or.inl h)⟩
  have := h.low
  have := f.size
  simp [World.setCell]; omega
theorem Fr.frame2 {w w1 w2 : World} {p : Nat} {v v1 : Value} (h1 : Fr w w1 (fun k => k = p ∨ v.ownBlock = some k)) (r1 : Row w v v1) (h2 : Fr w1 w2 (fun k => k = p ∨ v1.ownBlock = some k)) : Fr w w2 (fun k => k = p ∨ v.ownBlock = some k) := by
  refine h1.trans h2 (fun i hi hs => ?_)
  rcases hs with rfl | hs
  · exact Or.inl rfl
  · rcases r1 with e | ⟨g, e, hg⟩
    · right; rw [← e]; exact hs
    · rw [e] at hs; cases hs; omega

theorem newwriter_any (w : World) : Calls Tryz.prog 21 #[] w fun r w' => r = .returned (.pointer (some ⟨w.heap.size, 0, none⟩)) ∧ Wr w' (w.heap.size + 1) w.heap.size (.slice none 0 0) [] ∧ Below w.heap.size w w' := by
  go_enter Tryz.func21, Tryz.ntmps21
  go_wp2
  go_ret
  exact ⟨rfl, ⟨heap_alloc_new _ _, World.ownsRow_nil _ _ _ _, by simp [Value.ownBlock], by simp⟩, (Below.refl _ _).alloc (Nat.le_refl _) _⟩

set_option maxRecDepth 100000 in
theorem wnumber_any {w : World} {base p : Nat} {v : Value} {l : List UInt8} (n : Nat) (h : Wr w base p v l) (hn : n < 18446744073709551616) (hroom : l.length + 10 ≤ 140737488355328) :
    Calls Tryz.prog 106 #[.pointer (some ⟨p, 0, none⟩), .int .u64 n] w fun r w' => r = .returned (.tuple #[]) ∧ ∃ v', Wr w' base p v' (l ++ numB n) ∧ Fr w w' (fun k => k = p ∨ v.ownBlock = some k) ∧ Row w v v' := by
  obtain ⟨ao, c, rfl⟩ := own_shape h.own
  have c0 := cell_of_one h.blk
  go_enter Tryz.func106, Tryz.ntmps106
  go_wp2_with (go_at_call 152; refine (append_number base _ l n _ hn h.own h.low hroom).mono ?_; rintro r w1 ⟨v', rfl, hown', hfr, hrow⟩; obtain ⟨bo, m, d, rfl⟩ := own_any hown'; have hb1 : w1.heap[p]? = some (.cells #[.slice ao l.length c] 128 (0, 0)) := (hfr.block p h.lt h.apart).trans h.blk; have c1 := cell_of_one hb1; have f1 := free_of_one hb1)
  go_end0
  have := h.stored hfr hown' hrow
  exact ⟨rfl, _, this.1, this.2, hrow⟩
theorem wsigned_any {w : World} {base p : Nat} {v : Value} {l : List UInt8} (k : Int) (h : Wr w base p v l) (h1 : -9223372036854775808 ≤ k) (h2 : k ≤ 9223372036854775807) (hroom : l.length + 10 ≤ 140737488355328) :
    Calls Tryz.prog 57 #[.pointer (some ⟨p, 0, none⟩), .int .i64 k] w fun r w' => r = .returned (.tuple #[]) ∧ ∃ v', Wr w' base p v' (l ++ numB (foldN k).toNat) ∧ Fr w w' (fun k => k = p ∨ v.ownBlock = some k) ∧ Row w v v' := by
  obtain ⟨m, HM⟩ : ∃ m : Nat, Hid (foldN k = m) := ⟨(foldN k).toNat, (Int.toNat_of_nonneg (fold_bd k h1 h2).1).symm⟩
  have hm : m < 18446744073709551616 := by have := fold_bd k h1 h2; have := HM.out; omega
  have hF : ∀ w, Calls Tryz.prog 107 #[.int .i64 k] w fun e w' => e = .returned (.int .u64 m) ∧ w' = w := fun w => by have := fold_any k w h1 h2; rw [HM.out] at this; exact this
  rw [show (foldN k).toNat = m by rw [HM.out]; rfl]
  go_enter Tryz.func57, Tryz.ntmps57
  go_wp2_with (first
    | (go_at_call 107; refine (hF _).mono ?_; rintro r w1 ⟨rfl, rfl⟩)
    | (go_at_call 106; refine (wnumber_any m h hm hroom).mono ?_; rintro r w2 ⟨rfl, hh⟩))
  go_end0
  exact ⟨rfl, hh⟩
theorem wcount_any {w : World} {base p : Nat} {v : Value} {l : List UInt8} (k : Int) (h : Wr w base p v l) (h2 : k ≤ 9223372036854775807) (hroom : l.length + 10 ≤ 140737488355328) :
    Calls Tryz.prog 56 #[.pointer (some ⟨p, 0, none⟩), .int .i64 k] w fun r w' => r = .returned (.tuple #[]) ∧ ∃ v', Wr w' base p v' (l ++ numB k.toNat) ∧ Fr w w' (fun k => k = p ∨ v.ownBlock = some k) ∧ Row w v v' := by
  have hN := wnumber_any k.toNat h (by omega) hroom
  rw [show ((k.toNat : Nat) : Int) = max k 0 by omega] at hN
  go_enter Tryz.func56, Tryz.ntmps56
  go_wp2_with (go_at_call 106; refine hN.mono ?_; rintro r w2 ⟨rfl, hh⟩)
  go_end0
  exact ⟨rfl, hh⟩
theorem wall_any {w : World} {base p : Nat} {v : Value} {l : List UInt8} (h : Wr w base p v l) :
    Calls Tryz.prog 24 #[.pointer (some ⟨p, 0, none⟩)] w fun r w' => r = .returned (.string (str l)) ∧ w' = w := by
  have hc := conv_own h.own
  obtain ⟨ao, c, rfl⟩ := own_shape h.own
  have c0 := cell_of_one h.blk
  go_enter Tryz.func24, Tryz.ntmps24
  go_wp2
  go_ret
  exact ⟨rfl, rfl⟩
end Go.Proofs.YtnhijofnhflklaaGreat
end

section
/- What rising, Edges and endsRise return. -/
namespace Go.Proofs.YtnhijofnhflklaaGreat
open Go.RowKit

theorem vertexnumber_any (x y : Int) (ao : Option Addr) (n c : Nat) (w : World) :
    Calls Tryz.prog 95 #[.agg #[.int .i64 x, .int .i64 y, .slice ao n c]] w fun r w' => r = .returned (.int .i64 x) ∧ Below w.heap.size w w' := by
  go_enter Tryz.func95, Tryz.ntmps95
  go_wp2
  go_ret
  exact ⟨rfl, (Below.refl _ _).alloc (Nat.le_refl _) _⟩
theorem edgeend_any (x y : Int) (w : World) :
    Calls Tryz.prog 147 #[.agg #[.int .i64 x, .int .i64 y]] w fun r w' => r = .returned (.int .i64 x) ∧ Below w.heap.size w w' := by
  go_enter Tryz.func147, Tryz.ntmps147
  go_wp2
  go_ret
  exact ⟨rfl, (Below.refl _ _).alloc (Nat.le_refl _) _⟩

set_option maxRecDepth 100000 in
theorem edges_any {w : World} {P : Nat → Prop} {ao : Option Addr} {G : List Vx} (cap : Nat) (h : VxAt w P ao G) (hl : G.length ≤ 9223372036854775807) :
    Calls Tryz.prog 96 #[.agg #[.slice ao G.length cap]] w fun r w' => r = .returned (.int .i64 (sumE G)) ∧ Below w.heap.size w w' := by
  go_enter Tryz.func96, Tryz.ntmps96
  go_wp2
  go_loopw [3, 5, 9] (fun n _ i wr => ∃ (k : Nat), k ≤ G.length ∧ i = .int .i64 k ∧ n = .int .i64 (sumE (G.take k)) ∧ Below w.heap.size w wr) (fun _ _ i _ => G.length - (intOf i).toNat)
  case atStart => exact ⟨0, Nat.zero_le _, rfl, rfl, (Below.refl _ _).alloc (Nat.le_refl _) _⟩
  case round =>
    obtain ⟨k, hk, rfl, rfl, hb⟩ := hrel
    by_cases hlt : k < G.length
    · obtain ⟨b, off, rfl, hP, hc⟩ := h (by omega)
      obtain ⟨eo, ec, c0, c1, c2, _⟩ := hc k hlt
      have hbb := lt_cell c0
      have d0 := (hb.cell (p := ⟨b, off + k * 3, none⟩) hbb).trans c0
      have d1 := (hb.cell (p := ⟨b, off + k * 3 + 1, none⟩) hbb).trans c1
      have d2 := (hb.cell (p := ⟨b, off + k * 3 + 2, none⟩) hbb).trans c2
      have HS : Hid _ := sumE_snoc G k hlt
      clear c0 c1 c2 hc
      generalize G[k] = y at d0 d1 d2 HS
      go_wp2
      go_roundw
      case rel => exact ⟨k + 1, by omega, by go_num, by rw [HS.out], hb.alloc hb.size _⟩
      case measure => simp [intOf]; omega
    · obtain rfl : k = G.length := by omega
      go_wp2
      go_ret
      exact ⟨by rw [List.take_length]; rfl, hb⟩
theorem rise_false {l : List Int} {j : Nat} (h : j + 1 < l.length) (hn : ¬ l[j] < l[j + 1]) : riseB l = false := by
  rw [Bool.eq_false_iff]
  intro hr
  exact hn ((riseB_iff l).1 hr j h)
theorem rise_at {l : List Int} {k m : Nat} {x y : Int} (hk : k = m + 1) (h : k < l.length) (hm : l[m]'(by omega) = x) (hn : l[k] = y) (hr : y ≤ x) : riseB l = false := by
  subst hk
  exact rise_false h (by rw [hm, hn]; omega)
theorem rise_step {l : List Int} {k m : Nat} {x y : Int} (hk : k = m + 1) (h : k < l.length) (hm : l[m]'(by omega) = x) (hn : l[k] = y) (hr : x < y) (H : ∀ j (h : j + 1 < l.length), j + 1 < k → l[j] < l[j + 1]) : ∀ j (h : j + 1 < l.length), j + 1 < k + 1 → l[j] < l[j + 1] := by
  subst hk
  intro j hj hjk
  by_cases e : j = m
  · subst e; rw [hm, hn]; exact hr
  · exact H j hj (by omega)

set_option maxRecDepth 100000 in
set_option maxHeartbeats 4000000 in
theorem rising_v {w : World} {P : Nat → Prop} {ao : Option Addr} {G : List Vx} (cap : Nat) (h : VxAt w P ao G) (hl : G.length ≤ 9223372036854775807) :
    Calls Tryz.prog 94 #[.slice ao G.length cap, .func (.func 95) #[] #[]] w fun r w' => r = .returned (.bool (riseB (ids G))) ∧ Below w.heap.size w w' := by
  go_enter Tryz.func94, Tryz.ntmps94
  go_wp2
  go_loopw [5] (fun i wr => ∃ (k : Nat), 1 ≤ k ∧ k ≤ max G.length 1 ∧ i = .int .i64 k ∧ Hid (∀ j (h : j + 1 < (ids G).length), j + 1 < k → (ids G)[j] < (ids G)[j + 1]) ∧ Below w.heap.size w wr) (fun i _ => G.length - (intOf i).toNat)
  case atStart => exact ⟨1, Nat.le_refl _, by omega, rfl, fun j _ hj => absurd hj (by omega), Below.refl _ _⟩
  case round =>
    obtain ⟨k, hk1, hk, rfl, HR, hb⟩ := hrel
    by_cases hlt : k < G.length
    · obtain ⟨b, off, rfl, hP, hc⟩ := h (by omega)
      obtain ⟨m, HK⟩ : ∃ m, Hid (k = m + 1) := ⟨k - 1, (by omega : k = k - 1 + 1)⟩
      have hmk : k = m + 1 := HK.out
      have hm0 : m < G.length := by omega
      obtain ⟨eo, ec, c0, c1, c2, _⟩ := hc m hm0
      obtain ⟨fo, fc, f0, f1, f2, _⟩ := hc k hlt
      have hbb := lt_cell c0
      have hbw : b < wr.heap.size := Nat.lt_of_lt_of_le hbb hb.size
      have d0 := (hb.cell (p := ⟨b, off + m * 3, none⟩) hbb).trans c0
      have d1 := (hb.cell (p := ⟨b, off + m * 3 + 1, none⟩) hbb).trans c1
      have d2 := (hb.cell (p := ⟨b, off + m * 3 + 2, none⟩) hbb).trans c2
      have g0 := (hb.cell (p := ⟨b, off + k * 3, none⟩) hbb).trans f0
      have g1 := (hb.cell (p := ⟨b, off + k * 3 + 1, none⟩) hbb).trans f1
      have g2 := (hb.cell (p := ⟨b, off + k * 3 + 2, none⟩) hbb).trans f2
      have HM : Hid ((ids G)[m]'(by rw [ids_len]; omega) = G[m].id) := ids_get G m hm0
      have HN : Hid ((ids G)[k]'(by rw [ids_len]; omega) = G[k].id) := ids_get G k hlt
      have hm1 : IntKind.i64.wrap ((k : Int) - 1) = m := by rw [IntKind.wrap_i64]; omega
      have hm2 : wrap64 ((k : Int) - 1) = m := by unfold wrap64; omega
      clear c0 c1 c2 f0 f1 f2 hc hmk
      generalize G[m] = y at d0 d1 d2 HM
      generalize G[k] = z at g0 g1 g2 HN
      go_wp2
      go_region_with (go_at_call 95; refine (vertexnumber_any _ _ _ _ _ _).mono ?_; rintro r w1 ⟨rfl, hb1⟩; first | (have hbA := hb.trans ((below_c hb1).mono hb.size); have e0 := (hb1.cell (p := ⟨b, off + k * 3, none⟩) hbw).trans g0; have e1 := (hb1.cell (p := ⟨b, off + k * 3 + 1, none⟩) hbw).trans g1; have e2 := (hb1.cell (p := ⟨b, off + k * 3 + 2, none⟩) hbw).trans g2) | (have hbB := hbA.trans (hb1.mono hbA.size)))
      all_goals
        by_cases hr : z.id ≤ y.id
        · go_wp2
          go_ret
          exact ⟨by rw [rise_at HK.out (by rw [ids_len]; exact hlt) HM.out HN.out hr]; rfl, hbB⟩
        · go_wp2
          go_roundw
          case rel => exact ⟨k + 1, by omega, by omega, by go_num, rise_step HK.out (by rw [ids_len]; exact hlt) HM.out HN.out (by omega) HR.out, hbB⟩
          case measure => simp [intOf]; omega
    · go_wp2
      go_ret
      exact ⟨by rw [(riseB_iff _).2 (fun j hj => HR.out j hj (by rw [ids_len] at hj; omega))]; rfl, hb⟩
end Go.Proofs.YtnhijofnhflklaaGreat
end

section
/- slices.CompactFunc of requests: of those that ask for the same, one behind the other, the first alone. -/
namespace Go.Proofs.YtnhijofnhflklaaGreat
open Go.RowKit Go.Sort
theorem ddF_snoc : ∀ (l : List Mu) (p x : Mu), ddF p (l ++ [x]) = ddF p l ++ (if sameU x (l.getLastD p) then [] else [x])
  | [], p, x => rfl
  | m :: l, p, x => by
    have ih := ddF_snoc l m x
    rw [List.cons_append, show ddF p (m :: (l ++ [x])) = if sameU m p then ddF m (l ++ [x]) else m :: ddF m (l ++ [x]) from rfl, show ddF p (m :: l) = if sameU m p then ddF m l else m :: ddF m l from rfl, ih, List.getLastD_cons]
    split <;> simp
theorem dd_snoc (l : List Mu) (p x : Mu) : dd (p :: l ++ [x]) = dd (p :: l) ++ (if sameU x (l.getLastD p) then [] else [x]) := by
  rw [List.cons_append, show dd (p :: (l ++ [x])) = p :: ddF p (l ++ [x]) from rfl, ddF_snoc]; rfl
theorem last_take {L : List Mu} {j : Nat} (h : j < L.length) {p : Mu} {l : List Mu} (e : L.take (j + 1) = p :: l) : l.getLastD p = L[j] := by
  have h1 : (L.take (j + 1)).getLast? = some L[j] := by
    rw [List.take_succ_eq_append_getElem h]; exact List.getLast?_concat
  rw [e, List.getLast?_cons] at h1
  rw [List.getLastD_eq_getLast?]
  exact Option.some.inj h1
theorem dd_take {L : List Mu} {j k : Nat} (hk : k = j + 1) (h : k < L.length) : dd (L.take (k + 1)) = dd (L.take k) ++ (if sameU (L[k]) (L[j]'(by omega)) then [] else [L[k]]) := by
  subst hk
  cases e : L.take (j + 1) with
  | nil => have := congrArg List.length e; rw [List.length_take, List.length_nil] at this; omega
  | cons p l =>
    rw [List.take_succ_eq_append_getElem h, e, dd_snoc, last_take (by omega) e]
/-- Do two requests ask for the same thing? -/
theorem samething_any (x y : Mu) (w : World) : Calls Tryz.prog 182 #[.agg #[.int .i64 x.k, .int .i64 x.i, .int .i64 x.t, .int .i64 x.v], .agg #[.int .i64 y.k, .int .i64 y.i, .int .i64 y.t, .int .i64 y.v]] w fun e w' => e = .returned (.bool (sameU x y)) ∧ Below w.heap.size w w' := by
  by_cases h1 : x.k = y.k
  · have e1 : (x.k == y.k) = true := by simpa using h1
    by_cases h2 : x.i = y.i
    · have e2 : (x.i == y.i) = true := by simpa using h2
      have HE : Hid (sameU x y = (x.t == y.t)) := by show _ = _; unfold sameU; rw [e1, e2]; simp
      clear h1 h2
      go_enter Tryz.func182, Tryz.ntmps182
      go_wp2
      go_ret
      exact ⟨by rw [HE.out]; rfl, b2 _ _ _⟩
    · have e2 : (x.i == y.i) = false := by simpa using h2
      have HE : Hid (sameU x y = false) := by show _ = _; unfold sameU; rw [e1, e2]; simp
      clear h1 h2
      go_enter Tryz.func182, Tryz.ntmps182
      go_wp2
      go_ret
      exact ⟨by rw [HE.out]; rfl, b2 _ _ _⟩
  · have e1 : (x.k == y.k) = false := by simpa using h1
    have HE : Hid (sameU x y = false) := by show _ = _; unfold sameU; rw [e1]; simp
    clear h1
    go_enter Tryz.func182, Tryz.ntmps182
    go_wp2
    go_ret
    exact ⟨by rw [HE.out]; rfl, b2 _ _ _⟩
end Go.Proofs.YtnhijofnhflklaaGreat
end

section
/- slices.CompactFunc of requests: the walk. -/
namespace Go.Proofs.YtnhijofnhflklaaGreat
open Go.RowKit Go.Sort
theorem over_take_in' (cur : List Value) (o : Nat) (vs : List Value) {N : Nat} (h : o + vs.length ≤ N) (hN : N ≤ cur.length) : (over cur o vs).take N = over (cur.take N) o vs := by
  unfold over
  rw [List.take_append, List.take_of_length_le (by simp; omega), List.take_take, Nat.min_eq_left (by omega), List.drop_take]
  congr 1
  congr 1
  simp
  omega
theorem own_new' {w w' : World} {base : Nat} {e : TypeId} {size : Nat} {v : Value} {n : Nat} {xs : List Value} (h : w.ownsRow base e size v n xs) (hb : Below w.heap.size w w') : w'.ownsRow base e size v n xs := by
  refine ⟨h.1, ?_⟩
  rcases h.2 with hn | ⟨g, cap, cur, rfl, h2, hg, rest⟩
  · exact .inl hn
  · exact .inr ⟨g, cap, cur, rfl, h2, (hb.block g (Array.getElem?_eq_some_iff.1 hg).1).trans hg, rest⟩
/-- The four cells of a request in a row. -/
def UC (w : World) (g o : Nat) (x : Mu) : Prop := w.cell? ⟨g, o, none⟩ = some (.int .i64 x.k) ∧ w.cell? ⟨g, o + 1, none⟩ = some (.int .i64 x.i) ∧ w.cell? ⟨g, o + 2, none⟩ = some (.int .i64 x.t) ∧ w.cell? ⟨g, o + 3, none⟩ = some (.int .i64 x.v)
theorem UC.new {w w' : World} {g o : Nat} {x : Mu} (h : UC w g o x) (hb : Below w.heap.size w w') : UC w' g o x := by
  have f := Fr.ofBelow hb (fun _ => False)
  exact ⟨fr_cell f (fun h => h) h.1, fr_cell f (fun h => h) h.2.1, fr_cell f (fun h => h) h.2.2.1, fr_cell f (fun h => h) h.2.2.2⟩
theorem UC.drew {w w' : World} {g o : Nat} {x : Mu} (h : UC w g o x) (hb : Below w.drew.heap.size w.drew w') : UC w' g o x := UC.new (w := w.drew) h hb
theorem UO.cells {w : World} {base g n cap : Nat} {R : List Mu} (h : UO w base (.slice (some ⟨g, 0, none⟩) n cap) R) {j : Nat} (hj : j < R.length) : UC w g (j * 4) R[j] := by
  have hc : ∀ i u, (R.flatMap muCells)[i]? = some u → w.cell? ⟨g, i, none⟩ = some u := fun i u hu => by
    have := World.ownsRow.cells h (g := g) rfl i u hu
    rwa [Addr.add_lit, Nat.zero_add] at this
  obtain ⟨a0, a1, a2, a3⟩ := cellsU_get R j hj
  exact ⟨hc _ _ a0, hc _ _ a1, hc _ _ a2, hc _ _ a3⟩
theorem UO.soft {w : World} {base g n cap : Nat} {R : List Mu} (h : UO w base (.slice (some ⟨g, 0, none⟩) n cap) R) (o : Nat) : w.frozen? ⟨g, o, none⟩ = false := by
  rcases h.2 with ⟨h1, _⟩ | ⟨g', cap', cur, h1, _, hg, _⟩
  · cases h1
  · cases h1
    simp [World.frozen?, hg]
theorem UO.new {w w' : World} {base : Nat} {v : Value} {R : List Mu} (h : UO w base v R) (hb : Below w.heap.size w w') : UO w' base v R := own_new' h hb
theorem over_mu (A B : List Mu) (x y : Mu) : over ((A ++ y :: B).flatMap muCells) (A.length * 4) (muCells x) = (A ++ x :: B).flatMap muCells := by
  have hl := mu_len A
  unfold over
  rw [List.flatMap_append, List.flatMap_cons, List.take_left' hl, show A.length * 4 + (muCells x).length = A.length * 4 + 4 from rfl]
  rw [← List.append_assoc, List.drop_left' (by rw [List.length_append, hl]; rfl), List.flatMap_append, List.flatMap_cons, List.append_assoc]
/-- A request stored into a row. -/
theorem UO.set {w : World} {base g n cap : Nat} {R : List Mu} (h : UO w base (.slice (some ⟨g, 0, none⟩) n cap) R) {j : Nat} (hj : j < R.length) (x : Mu) :
    UO (w.setCells g (j * 4) (muCells x)) base (.slice (some ⟨g, 0, none⟩) n cap) (R.set j x) := by
  obtain ⟨g', cap', cur, h1, hn, hB, ht⟩ := own_blk h (by omega)
  cases h1
  have hmul := Nat.mul_le_mul_right 4 hn
  have hsz := hB.size
  have hB2 := (hB.set (j * 4) (muCells x) (by show j * 4 + 4 ≤ _; omega)).own hn
  rw [over_take_in' _ _ _ (by show j * 4 + 4 ≤ _; omega) (by omega), ht] at hB2
  have e : R = R.take j ++ R[j] :: R.drop (j + 1) := by rw [← List.drop_eq_getElem_cons hj, List.take_append_drop]
  have e2 : over (R.flatMap muCells) (j * 4) (muCells x) = (R.set j x).flatMap muCells := by
    have := over_mu (R.take j) (R.drop (j + 1)) x R[j]
    rw [← e, List.length_take, Nat.min_eq_left (by omega)] at this
    rw [this, List.set_eq_take_append_cons_drop, if_pos hj]
  rw [e2] at hB2
  unfold UO
  rw [List.length_set]
  exact hB2
end Go.Proofs.YtnhijofnhflklaaGreat
end

section
/- slices.CompactFunc of requests: the walk. -/
namespace Go.Proofs.YtnhijofnhflklaaGreat
open Go.RowKit Go.Sort
theorem zeroMu : ∀ w, (zeroValue 95).run Tryz.prog w = .ok (.agg #[.int .i64 0, .int .i64 0, .int .i64 0, .int .i64 0]) w := Tryz.zeroValue95
theorem take_set_snoc {R : List Mu} {k : Nat} (h : k < R.length) {x : Mu} : (R.set k x).take (k + 1) = R.take k ++ [x] := by
  rw [List.take_succ_eq_append_getElem (by rw [List.length_set]; exact h), List.getElem_set_self, List.take_set_of_le (Nat.le_refl _)]
theorem flat_takeU (L : List Mu) (n : Nat) : (L.flatMap muCells).take (n * 4) = (L.take n).flatMap muCells := by
  by_cases h : n ≤ L.length
  · conv => lhs; rw [← List.take_append_drop n L, List.flatMap_append]
    rw [List.take_left' (by rw [mu_len, List.length_take]; omega)]
  · rw [List.take_of_length_le (by rw [mu_len]; omega), List.take_of_length_le (by omega)]
/-- What the inner loop holds. -/
structure CI (w0 wr : World) (base g n cap : Nat) (L : List Mu) (k0 k k2 : Nat) : Prop where
  row : ∃ R, R.length = n ∧ UO wr base (.slice (some ⟨g, 0, none⟩) n cap) R ∧ R.take k = dd (L.take (k0 + k2)) ∧ ∀ j, k0 + k2 ≤ j + 1 → R[j]? = L[j]?
  lt : k + 1 ≤ k0 + k2
  fr : Fr w0 wr (fun b => b = g)
set_option maxRecDepth 100000 in
set_option maxHeartbeats 1000000 in
theorem compact_many {w : World} {base g cap : Nat} {L : List Mu} (h : UO w base (.slice (some ⟨g, 0, none⟩) L.length cap) L) (hl : L.length ≤ 1073741824) (h2 : 2 ≤ L.length) :
    Calls Tryz.prog 181 #[.slice (some ⟨g, 0, none⟩) L.length cap, .func (.func 182) #[] #[]] w fun e w' => ∃ v', e = .returned v' ∧ UO w' base v' (dd L) ∧ v'.ownBlock = some g ∧ Fr w w' (fun b => b = g) := by
  have hcap : L.length ≤ cap ∧ cap ≤ 9223372036854775807 := by
    rcases h.2 with ⟨h1, _⟩ | ⟨g', cap', cur, h1, _, hg, hn, hc, _⟩
    · cases h1
    · cases h1
      unfold maxLen at hc
      omega
  obtain ⟨hc1, hc2⟩ := hcap
  obtain ⟨n, hn⟩ : ∃ n, L.length = n := ⟨_, rfl⟩
  rw [hn] at h hl h2 hc1 ⊢
  have HN : Hid (L.length = n) := hn
  have HU : Hid _ := h
  clear hn h
  have hm : ¬ (n : Int) < 2 := by omega
  go_enter Tryz.func181, Tryz.ntmps181
  go_wp2
  go_loopw [5] (fun u wr => ∃ k : Nat, 1 ≤ k ∧ k ≤ n ∧ u = .int .i64 k ∧ Hid (dd (L.take k) = L.take k) ∧ Below w.heap.size w wr) (fun u _ => n - (intOf u).toNat)
  case atStart =>
    refine ⟨1, Nat.le_refl _, by omega, rfl, ?_, Below.refl _ _⟩
    show _ = _
    have := HN.out
    match L, this with
    | [], e => simp at e; omega
    | x :: L, _ => rfl
  case round =>
    obtain ⟨k, hk1, hkn, rfl, HD, hb⟩ := hrel
    by_cases hlt : k < n
    · obtain ⟨j, hj⟩ : ∃ j, k = j + 1 := ⟨k - 1, by omega⟩
      have hLk : k < L.length := by rw [HN.out]; exact hlt
      have hc1' := (UO.cells HU.out hLk).new hb
      have hc0' := (UO.cells HU.out (j := j) (by omega)).new hb
      have HT := dd_take hj hLk
      have HX := List.take_succ_eq_append_getElem hLk
      generalize L[k] = x at hc1' HT HX
      generalize L[j]'(by omega) = y at hc0' HT
      have HTT : Hid _ := HT
      have HXX : Hid _ := HX
      clear HT HX
      have hsub : (k : Int) - 1 = (j : Int) := by omega
      have hjn : j < n := by omega
      have hwr : IntKind.i64.wrap (j : Int) = (j : Int) := IntWalk.i64_in _ (by omega)
      have HJ : Hid (k = j + 1) := hj
      have x0 : UC wr g (k * 4) x ∧ UC wr g (j * 4) y := ⟨hc1', hc0'⟩
      clear hj hc1' hc0' hLk
      have HB : Hid _ := hb
      cases hs : sameU x y
      · have hS := fun W => samething_any x y W
        rw [hs] at hS
        have HS : Hid _ := hs
        clear hs hb
        go_upto_region 6 with (fail)
        unfold UC at x0
        go_region_held (fun w' => (w'.cell? ⟨g, k * 4, none⟩ = some (.int .i64 x.k) ∧ w'.cell? ⟨g, k * 4 + 1, none⟩ = some (.int .i64 x.i) ∧ w'.cell? ⟨g, k * 4 + 2, none⟩ = some (.int .i64 x.t) ∧ w'.cell? ⟨g, k * 4 + 3, none⟩ = some (.int .i64 x.v)) ∧ (w'.cell? ⟨g, j * 4, none⟩ = some (.int .i64 y.k) ∧ w'.cell? ⟨g, j * 4 + 1, none⟩ = some (.int .i64 y.i) ∧ w'.cell? ⟨g, j * 4 + 2, none⟩ = some (.int .i64 y.t) ∧ w'.cell? ⟨g, j * 4 + 3, none⟩ = some (.int .i64 y.v))) (first | exact x1 | exact x0)
          (first | (go_at_call 182; refine (hS _).mono ?_; rintro e w1 ⟨rfl, hb1⟩; have x1 := And.intro (UC.drew x0.1 hb1) (UC.drew x0.2 hb1); unfold UC at x1))
        have HB1 : Hid (Below w.heap.size w w1) := HB.out.trans (((Below.refl _ _).drew).trans hb1 |>.mono HB.out.size)
        clear x0 x1 hb1
        go_wp2
        go_roundw
        case rel => exact ⟨k + 1, by omega, by omega, by go_num, by show _ = _; rw [HTT.out, HS.out, HD.out, HXX.out]; rfl, HB1.out⟩
        case measure => simp [intOf]; omega
      · have hS := fun W => samething_any x y W
        rw [hs] at hS
        have HS : Hid _ := hs
        clear hs hb
        go_upto_region 6 with (fail)
        unfold UC at x0
        go_region_held (fun w' => (w'.cell? ⟨g, k * 4, none⟩ = some (.int .i64 x.k) ∧ w'.cell? ⟨g, k * 4 + 1, none⟩ = some (.int .i64 x.i) ∧ w'.cell? ⟨g, k * 4 + 2, none⟩ = some (.int .i64 x.t) ∧ w'.cell? ⟨g, k * 4 + 3, none⟩ = some (.int .i64 x.v)) ∧ (w'.cell? ⟨g, j * 4, none⟩ = some (.int .i64 y.k) ∧ w'.cell? ⟨g, j * 4 + 1, none⟩ = some (.int .i64 y.i) ∧ w'.cell? ⟨g, j * 4 + 2, none⟩ = some (.int .i64 y.t) ∧ w'.cell? ⟨g, j * 4 + 3, none⟩ = some (.int .i64 y.v))) (first | exact x1 | exact x0)
          (first | (go_at_call 182; refine (hS _).mono ?_; rintro e w1 ⟨rfl, hb1⟩; have x1 := And.intro (UC.drew x0.1 hb1) (UC.drew x0.2 hb1); unfold UC at x1))
        have HB1 : Hid (Below w.heap.size w w1) := HB.out.trans (((Below.refl _ _).drew).trans hb1 |>.mono HB.out.size)
        clear x0 x1 hb1 hS hwr hsub hjn
        have hcn : ¬ cap = k := by omega
        have HDD : Hid (dd (L.take (k + 1)) = L.take k) := by show _ = _; rw [HTT.out, HS.out, HD.out]; simp
        clear HTT HXX HS HD HJ HB
        go_wp2
        go_loopw [5, 7] (fun u v wr => ∃ kk k2 : Nat, 1 ≤ k2 ∧ k2 ≤ n - k ∧ u = .int .i64 kk ∧ v = .int .i64 k2 ∧ CI w wr base g n cap L k kk k2) (fun _ v _ => (n - k) - (intOf v).toNat)
        case atStart => exact ⟨k, 1, Nat.le_refl _, by omega, rfl, rfl, ⟨⟨L, HN.out, by have := UO.new HU.out HB1.out; exact this, HDD.out.symm, fun _ _ => rfl⟩, Nat.le_refl _, Fr.ofBelow HB1.out _⟩⟩
        case round =>
          obtain ⟨kk, k2, hk21, hk2n, rfl, rfl, ⟨R, hR1, hR2, hR3, hR4⟩, hkl, hfr⟩ := hrel
          clear HB1
          by_cases hlt2 : k2 < n - k
          · obtain ⟨p, hp⟩ : ∃ p, k2 = p + 1 := ⟨k2 - 1, by omega⟩
            have hLq : k + k2 < L.length := by rw [HN.out]; omega
            have e1 : R[k + k2]'(by omega) = L[k + k2] := by have := hR4 (k + k2) (by omega); rwa [List.getElem?_eq_getElem (by omega), List.getElem?_eq_getElem hLq, Option.some.injEq] at this
            have e0 : R[k + p]'(by omega) = L[k + p]'(by omega) := by have := hR4 (k + p) (by omega); rwa [List.getElem?_eq_getElem (by omega), List.getElem?_eq_getElem (by omega), Option.some.injEq] at this
            have c1 := UO.cells hR2 (j := k + k2) (by omega)
            have c0 := UO.cells hR2 (j := k + p) (by omega)
            have ck := UO.cells hR2 (j := kk) (by omega)
            rw [e1, Nat.add_mul] at c1
            rw [e0, Nat.add_mul] at c0
            have HT := dd_take (L := L) (j := k + p) (k := k + k2) (by omega) hLq
            generalize L[k + k2] = x2 at c1 HT
            generalize L[k + p]'(by omega) = y2 at c0 HT
            have hz := UO.soft hR2
            have HT2 : Hid _ := HT
            have HR1 : Hid _ := hR1
            have HR2 : Hid _ := hR2
            have HR3 : Hid _ := hR3
            have HR4 : Hid _ := hR4
            have HKl : Hid _ := hkl
            have HFr : Hid _ := hfr
            have hsub : (k2 : Int) - 1 = (p : Int) := by omega
            have hpn : p < n - k := by omega
            have hwr : IntKind.i64.wrap (p : Int) = (p : Int) := IntWalk.i64_in _ (by omega)
            have hkkn : kk < n := by omega
            generalize R[kk]'(by omega) = z at ck
            have x0 : UC wr g (k * 4 + k2 * 4) x2 ∧ UC wr g (k * 4 + p * 4) y2 := ⟨c1, c0⟩
            have HP : Hid (k2 = p + 1) := hp
            have hz0 := hz (kk * 4)
            have hz1 := hz (kk * 4 + 1)
            have hz2 := hz (kk * 4 + 2)
            have hz3 := hz (kk * 4 + 3)
            have HZ : Hid (UC wr g (kk * 4) z ∧ ∀ o, wr.frozen? ⟨g, o, none⟩ = false) := ⟨ck, hz⟩
            clear HT e0 e1 c0 c1 ck hR1 hR2 hR3 hR4 hkl hfr hp hz hz0 hz1 hz2 hz3 hLq
            cases hs : sameU x2 y2
            all_goals
              have hS := fun W => samething_any x2 y2 W
              rw [hs] at hS
              have HS : Hid _ := hs
              clear hs
              go_upto_region 11 with (fail)
              unfold UC at x0
              go_region_held (fun w' => (w'.cell? ⟨g, k * 4 + k2 * 4, none⟩ = some (.int .i64 x2.k) ∧ w'.cell? ⟨g, k * 4 + k2 * 4 + 1, none⟩ = some (.int .i64 x2.i) ∧ w'.cell? ⟨g, k * 4 + k2 * 4 + 2, none⟩ = some (.int .i64 x2.t) ∧ w'.cell? ⟨g, k * 4 + k2 * 4 + 3, none⟩ = some (.int .i64 x2.v)) ∧ (w'.cell? ⟨g, k * 4 + p * 4, none⟩ = some (.int .i64 y2.k) ∧ w'.cell? ⟨g, k * 4 + p * 4 + 1, none⟩ = some (.int .i64 y2.i) ∧ w'.cell? ⟨g, k * 4 + p * 4 + 2, none⟩ = some (.int .i64 y2.t) ∧ w'.cell? ⟨g, k * 4 + p * 4 + 3, none⟩ = some (.int .i64 y2.v))) (first | exact x1 | exact x0)
                (first | (go_at_call 182; refine (hS _).mono ?_; rintro e w2 ⟨rfl, hb2⟩; have x1 := And.intro (UC.drew x0.1 hb2) (UC.drew x0.2 hb2); unfold UC at x1))
              have HB2 : Hid (Below wr.heap.size wr w2) := ((Below.refl _ wr).drew).trans hb2
              have HX1 : Hid _ := x1
              clear x0 x1 hb2 hS
            · have hb2 := HB2.out
              have hg : g < wr.heap.size := lt_cell HZ.out.1.1
              have ck2 := HZ.out.1.new hb2
              have hz2 : ∀ o, w2.frozen? ⟨g, o, none⟩ = false := fun o => (hb2.frozen (p := ⟨g, o, none⟩) hg).trans (HZ.out.2 o)
              have q0 := ck2.1
              have q1 := ck2.2.1
              have q2 := ck2.2.2.1
              have q3 := ck2.2.2.2
              have z0 := hz2 (kk * 4)
              have z1 := hz2 (kk * 4 + 1)
              have z2 := hz2 (kk * 4 + 2)
              have z3 := hz2 (kk * 4 + 3)
              have r0 := HX1.out.1.1
              have r1 := HX1.out.1.2.1
              have r2 := HX1.out.1.2.2.1
              have r3 := HX1.out.1.2.2.2
              have hkk := UO.set (UO.new HR2.out hb2) (j := kk) (by rw [HR1.out]; exact hkkn) x2
              have HKK : Hid _ := hkk
              clear hb2 hg ck2 hz2 hkk
              go_wp2
              go_roundw
              case rel => exact ⟨kk + 1, k2 + 1, by omega, by omega, by go_num, by go_num, ⟨⟨R.set kk x2, by rw [List.length_set]; exact HR1.out, HKK.out, by rw [take_set_snoc (by rw [HR1.out]; exact hkkn), HR3.out, ← Nat.add_assoc, HT2.out, HS.out]; rfl, fun q hq => by rw [List.getElem?_set_ne (by have := HKl.out; omega)]; exact HR4.out q (by omega)⟩, by have := HKl.out; omega, ((HFr.out.trans (Fr.ofBelow HB2.out (fun b => b = g)) (fun _ _ h => h)).trans (fr_setCells g (S := fun b => b = g) rfl (muCells x2) (kk * 4) w2) (fun _ _ h => h))⟩⟩
              case measure => simp [intOf]; omega
            · have hb2 := HB2.out
              have hkk := UO.new HR2.out hb2
              have HKK : Hid _ := hkk
              clear hb2 hkk
              go_wp2
              go_roundw
              case rel => exact ⟨kk, k2 + 1, by omega, by omega, rfl, by go_num, ⟨⟨R, HR1.out, HKK.out, by rw [HR3.out, ← Nat.add_assoc, HT2.out, HS.out]; simp, fun q hq => HR4.out q (by omega)⟩, by have := HKl.out; omega, HFr.out.trans (Fr.ofBelow HB2.out (fun b => b = g)) (fun _ _ h => h)⟩⟩
              case measure => simp [intOf]; omega
          · obtain rfl : k2 = n - k := by omega
            have hkn2 : k + (n - k) = n := by omega
            rw [hkn2, ← HN.out, List.take_length] at hR3
            have hR5 : wr.ownsRow base 95 4 (.slice (some ⟨g, 0, none⟩) n cap) n (R.flatMap muCells) := by have h := hR2; unfold UO at h; rwa [hR1] at h
            obtain ⟨g', cap', cur, hv1, hv2, hB, hv3⟩ := own_blk hR5 (by omega)
            cases hv1
            have hsz := hB.size
            have hnk := Nat.mul_le_mul_right 4 hv2
            obtain ⟨zs, hzs⟩ : ∃ zs, zs = (Builtin.zeroCells (Value.agg #[.int .i64 0, .int .i64 0, .int .i64 0, .int .i64 0]).cells (n - kk)).toList := ⟨_, rfl⟩
            have hzl : zs.length = (n - kk) * 4 := by rw [hzs, zc_len]; rfl
            have hcl : ∀ ty, (Builtin.clear_ #[88] ty #[.slice (some ⟨g, kk * 4, none⟩) (n - kk) (cap - kk)]).run Tryz.prog wr = .ok (.tuple #[]) (wr.setCells g (kk * 4) zs) := fun ty => by
              rw [hzs]
              exact run_clear_k wr _ _ ty _ Tryz.underlying88 zeroMu (by decide) (by intro v hv; simp [Value.cells] at hv; rcases hv with rfl | rfl | rfl | rfl <;> rfl) g (kk * 4) (n - kk) (cap - kk) (by omega) (fun q hq => hB.there (by have : (Value.agg #[.int .i64 0, .int .i64 0, .int .i64 0, .int .i64 0]).cells.size = 4 := rfl; rw [this] at hq; omega)) (fun q hq => hB.soft _)
            have hfin := (hB.set (kk * 4) zs (by rw [hzl]; omega)).own (n := kk) (by omega)
            rw [over_take_lo _ _ _ (Nat.le_refl _) (by omega)] at hfin
            have hk4 : cur.take (kk * 4) = (dd L).flatMap muCells := by
              have e : cur.take (kk * 4) = (R.flatMap muCells).take (kk * 4) := by rw [← hv3, List.take_take, Nat.min_eq_left (by omega)]
              rw [e, ← hR3, flat_takeU]
            rw [hk4] at hfin
            have hlen : (dd L).length = kk := by rw [← hR3, List.length_take]; omega
            have HF : Hid (UO (wr.setCells g (kk * 4) zs) base (.slice (some ⟨g, 0, none⟩) kk cap) (dd L)) := by show World.ownsRow _ _ _ _ _ _ _; rw [hlen]; exact hfin
            have HFr : Hid (Fr w (wr.setCells g (kk * 4) zs) (fun b => b = g)) := hfr.trans (fr_setCells g (S := fun b => b = g) rfl zs (kk * 4) wr) (fun _ _ h => h)
            have hkn3 : kk ≤ n := by omega
            have hkc : kk ≤ cap := by omega
            have hkc2 : ¬ cap = kk := by omega
            clear hR1 hR2 hR3 hR4 hR5 hkl hfr hB hv3 hsz hnk hzs hzl hfin hk4 hlen
            go_wp2
            go_ret
            exact ⟨_, rfl, HF.out, rfl, HFr.out⟩
    · obtain rfl : k = n := by omega
      have HD2 : Hid (dd L = L) := by
        show _ = _
        have := HD.out
        rwa [← HN.out, List.take_length] at this
      have HF : Hid (UO wr base (.slice (some ⟨g, 0, none⟩) k cap) (dd L)) := by show UO _ _ _ _; rw [HD2.out]; exact UO.new HU.out hb
      clear HD2 HD
      go_wp2
      go_ret
      exact ⟨_, rfl, HF.out, rfl, Fr.ofBelow hb _⟩
/-- Few requests stay as they are. -/
theorem compact_few {w : World} {base : Nat} {v : Value} {L : List Mu} (h : UO w base v L) (h2 : L.length < 2) :
    Calls Tryz.prog 181 #[v, .func (.func 182) #[] #[]] w fun e w' => e = .returned v ∧ w' = w := by
  have hm : (L.length : Int) < 2 := by omega
  rcases h.2 with ⟨rfl, h1⟩ | ⟨g', cap', cur, rfl, _⟩
  · clear h
    go_enter Tryz.func181, Tryz.ntmps181
    go_wp2
    go_ret
    exact ⟨rfl, rfl⟩
  · clear h
    generalize L.length = n at hm
    go_enter Tryz.func181, Tryz.ntmps181
    go_wp2
    go_ret
    exact ⟨rfl, rfl⟩
theorem dd_few : ∀ {L : List Mu}, L.length < 2 → dd L = L
  | [], _ => rfl
  | [x], _ => rfl
  | _ :: _ :: _, h => by simp at h; omega
theorem compact_any {w : World} {base : Nat} {v : Value} {L : List Mu} (h : UO w base v L) (hl : L.length ≤ 1073741824) :
    Calls Tryz.prog 181 #[v, .func (.func 182) #[] #[]] w fun e w' => ∃ v', e = .returned v' ∧ UO w' base v' (dd L) ∧ Fr w w' (fun b => v.ownBlock = some b) := by
  by_cases h2 : L.length < 2
  · refine (compact_few h h2).mono ?_
    rintro e w' ⟨rfl, rfl⟩
    exact ⟨v, rfl, by rw [dd_few h2]; exact h, Fr.refl _ _⟩
  · rcases h.2 with ⟨_, h1⟩ | ⟨g', cap', cur, rfl, _⟩
    · omega
    · refine (compact_many h hl (by omega)).mono ?_
      rintro e w' ⟨v', rfl, h1, _, h3⟩
      exact ⟨v', rfl, h1, h3.mono (fun k _ e => by rw [e]; rfl)⟩
end Go.Proofs.YtnhijofnhflklaaGreat
end

section
/- mut.thatCount: the requests that count, in their order, a list of its own. -/
namespace Go.Proofs.YtnhijofnhflklaaGreat
open Go.RowKit Go.Sort
/-- Requests lie in memory from an address on. -/
def UsAt (w : World) (P : Nat → Prop) (ao : Option Addr) (L : List Mu) : Prop :=
  0 < L.length → ∃ b off, ao = some ⟨b, off, none⟩ ∧ P b ∧ ∀ j (h : j < L.length), UC w b (off + j * 4) L[j]
theorem UsAt.kept {w w' : World} {P Q S : Nat → Prop} {ao : Option Addr} {L : List Mu} (h : UsAt w P ao L) (f : Fr w w' S) (hs : ∀ k, k < w.heap.size → P k → ¬ S k ∧ Q k) : UsAt w' Q ao L := by
  intro hl
  obtain ⟨b, off, e, hb, hc⟩ := h hl
  have hlt := lt_cell (hc 0 hl).1
  have hn := (hs b hlt hb).1
  exact ⟨b, off, e, (hs b hlt hb).2, fun j hj => ⟨fr_cell f hn (hc j hj).1, fr_cell f hn (hc j hj).2.1, fr_cell f hn (hc j hj).2.2.1, fr_cell f hn (hc j hj).2.2.2⟩⟩
theorem UsAt.new {w w' : World} {P : Nat → Prop} {ao : Option Addr} {L : List Mu} (h : UsAt w P ao L) (hb : Below w.heap.size w w') : UsAt w' P ao L := h.kept (Fr.ofBelow hb (fun _ => False)) (fun _ _ hp => ⟨fun h => h, hp⟩)
theorem UsAt.flat {w : World} {P : Nat → Prop} {ad : Addr} {L : List Mu} (h : UsAt w P (some ad) L) : ∀ j u, (L.flatMap muCells)[j]? = some u → w.cell? (ad.add j) = some u := by
  intro j u hu
  have hj : j < (L.flatMap muCells).length := (List.getElem?_eq_some_iff.1 hu).1
  rw [mu_len] at hj
  obtain ⟨b, off, e, _, hc⟩ := h (by omega)
  cases e
  rw [Addr.add_lit]
  have hi : j / 4 < L.length := by omega
  rw [flatU_get L j hj] at hu
  obtain ⟨c0, c1, c2, c3⟩ := hc (j / 4) hi
  have hm : j % 4 = 0 ∨ j % 4 = 1 ∨ j % 4 = 2 ∨ j % 4 = 3 := by omega
  rcases hm with hm | hm | hm | hm <;> rw [hm] at hu <;> simp [muCells] at hu <;> subst hu
  · rw [show off + j = off + j / 4 * 4 by omega]; exact c0
  · rw [show off + j = off + j / 4 * 4 + 1 by omega]; exact c1
  · rw [show off + j = off + j / 4 * 4 + 2 by omega]; exact c2
  · rw [show off + j = off + j / 4 * 4 + 3 by omega]; exact c3
theorem infoMu : (Tryz.prog.info? 95).map (fun i => (i.zero, i.size, i.bytes)) = some (some (.agg #[.int .i64 0, .int .i64 0, .int .i64 0, .int .i64 0]), 4, 32) := by kernel_rfl
theorem nil_eqU (w : World) (n c : Nat) : (binOp .eql 88 (.slice none n c) (.slice none 0 0)).run Tryz.prog w = .ok (.bool true) w := by
  have h : (Op.equalIn 10000 88 (.slice none n c) (.slice none 0 0)).run Tryz.prog w = .ok true w := by
    unfold Op.equalIn
    simp [run_underlying Tryz.underlying88]
  simp only [binOp]
  simp [Op.equal, Op.maxDepth, h]
theorem nil_neU (w : World) (ad : Addr) (n c : Nat) : (binOp .eql 88 (.slice (some ad) n c) (.slice none 0 0)).run Tryz.prog w = .ok (.bool false) w := by
  have h : (Op.equalIn 10000 88 (.slice (some ad) n c) (.slice none 0 0)).run Tryz.prog w = .ok false w := by
    unfold Op.equalIn
    simp [run_underlying Tryz.underlying88]
  simp only [binOp]
  simp [Op.equal, Op.maxDepth, h]
theorem own_emptyU {w : World} {base : Nat} {t : TypeId} {size : Nat} (hb : base ≤ w.heap.size) : (w.alloc (.cells #[] t)).ownsRow base t size (.slice (some ⟨w.heap.size, 0, none⟩) 0 0) 0 [] := World.ownsRow_made w #[] 0 hb (by decide) (by simp)
theorem one_newU (w : World) (o : Obj) : Below w.heap.size w (w.alloc o) := (Below.refl _ _).alloc (Nat.le_refl _) _
theorem own_anyU {w : World} {base : Nat} {e : TypeId} {size : Nat} {v : Value} {n : Nat} {xs : List Value} (h : w.ownsRow base e size v n xs) : ∃ ao m c, v = .slice ao m c := by
  rcases h.2 with ⟨h1, _⟩ | ⟨g, cap, cur, h1, _⟩
  · exact ⟨_, _, _, h1⟩
  · exact ⟨_, _, _, h1⟩
set_option maxRecDepth 100000 in
theorem cloneU_any {w : World} {P : Nat → Prop} {ao : Option Addr} (L : List Mu) (cap : Nat) (h : UsAt w P ao L) (hl : L.length ≤ 1073741824) :
    Calls Tryz.prog 178 #[.slice ao L.length cap] w fun r w' => ∃ v, r = .returned v ∧ UO w' w.heap.size v L ∧ Below w.heap.size w w' := by
  obtain ⟨i0, hi, hz0, hz1, hz2⟩ := info_parts infoMu
  cases ao with
  | none =>
    have hL : L = [] := List.eq_nil_of_length_eq_zero (Nat.eq_zero_of_not_pos (fun hp => by obtain ⟨b, off, e, _⟩ := h hp; cases e))
    subst hL
    have hq := nil_eqU
    go_enter Tryz.func178, Tryz.ntmps178
    go_wp2
    go_ret
    exact ⟨_, rfl, World.ownsRow_nil _ _ _ _, Below.refl _ _⟩
  | some ad =>
    have HN : Hid (∀ j u, (L.flatMap muCells)[j]? = some u → (w.alloc (.cells #[] 95)).cell? (ad.add j) = some u) := UsAt.flat (h.new (one_newU _ _))
    have HO : Hid _ := own_emptyU (w := w) (base := w.heap.size) (t := 95) (size := 4) (Nat.le_refl _)
    have HL : Hid ((L.flatMap muCells).length = L.length * 4) := mu_len L
    have HOne : Hid _ := musOne L
    clear h
    have hq := nil_neU
    go_enter Tryz.func178, Tryz.ntmps178
    go_wp2_with (at_builtin; refine wpList_append_own_at _ rfl _ _ 88 rfl w.heap.size 95 i0 (.agg #[.int .i64 0, .int .i64 0, .int .i64 0, .int .i64 0]) 4 32 Tryz.underlying88 hi hz0 hz1 hz2 rfl (by decide) _ _ _ rfl HO.out ad L.length cap (L.flatMap muCells) rfl HL.out HN.out HOne.out (by unfold maxLen; omega) (by omega) (by simp) ?_)
    intro v' w1 hown hgrow _ _
    obtain ⟨bo, m, c, rfl⟩ := own_anyU hown
    have HOw : Hid _ := hown
    have hb : Below w.heap.size w w1 := (one_newU w _).trans ((Fr.grown (S := fun k => k = w.heap.size) hgrow (fun k hk => by cases hk; rfl)).below (by simp) (fun k hk => by omega))
    clear hown
    go_wp2
    go_ret
    exact ⟨_, rfl, HOw.out, hb⟩
theorem sortU_empty (w : World) (p : Option Addr) (cap : Nat) : Calls Tryz.prog 179 #[.slice p 0 cap, .func (.func 180) #[] #[]] w fun e w' => e = .returned (.tuple #[]) ∧ w' = w := AnyF.slices_SortFunc_none { layU with } p cap _ w
theorem sort_of {w : World} {base : Nat} {v : Value} {L : List Mu} (h : UO w base v L) (hl : L.length ≤ 1073741824) : Calls Tryz.prog 179 #[v, .func (.func 180) #[] #[]] w fun e w' => e = .returned (.tuple #[]) ∧ UO w' base v (sortU L) ∧ w.grownBy w' v.ownBlock := by
  by_cases h0 : L.length = 0
  · obtain rfl := List.eq_nil_of_length_eq_zero h0
    obtain ⟨ao, c, rfl⟩ : ∃ ao c, v = .slice ao 0 c := by
      rcases h.2 with ⟨h1, _⟩ | ⟨g, cap, cur, h1, _⟩
      · exact ⟨_, _, h1⟩
      · exact ⟨_, _, h1⟩
    refine (sortU_empty w ao c).mono ?_
    rintro e w' ⟨rfl, rfl⟩
    rw [sortU_nil]
    exact ⟨rfl, h, rfl, rfl, rfl, Nat.le_refl _, fun _ _ _ => rfl⟩
  · obtain ⟨g, cap, cur, rfl, _⟩ := own_blk h (by omega)
    exact sortFU_any h (by omega)
theorem thatcount_any {w : World} {P : Nat → Prop} {ao : Option Addr} (L : List Mu) (cap : Nat) (h : UsAt w P ao L) (hl : L.length ≤ 1073741824) :
    Calls Tryz.prog 142 #[.slice ao L.length cap] w fun r w' => ∃ v, r = .returned v ∧ UO w' w.heap.size v (thatC L) ∧ Below w.heap.size w w' := by
  have HU : Hid _ := h
  clear h
  go_enter Tryz.func142, Tryz.ntmps142
  go_wp2_with (first
    | (go_at_call 178; refine (cloneU_any L cap HU.out hl).mono ?_; rintro r w1 ⟨v, rfl, h1, hb1⟩; obtain ⟨o1, m1, c1, rfl⟩ := own_anyU h1; have H1 : Hid _ := h1; have HB1 : Hid _ := hb1; clear h1 hb1)
    | (go_at_call 179; refine (sort_of H1.out hl).mono ?_; rintro r w2 ⟨rfl, h2, hg2⟩; have H2 : Hid _ := h2; have HG2 : Hid _ := hg2; clear h2 hg2)
    | (go_at_call 181; refine (compact_any H2.out (by rw [sortU_len]; exact hl)).mono ?_; rintro r w3 ⟨v', rfl, h3, hf3⟩; obtain ⟨o3, m3, c3, rfl⟩ := own_anyU h3; have H3 : Hid _ := h3; have HF3 : Hid _ := hf3; clear h3 hf3))
  go_ret
  have hlt := fun k hk => (World.ownsRow.lt H1.out k hk).1
  have f2 : Fr w1 w2 (fun k => (Value.slice o1 m1 c1).ownBlock = some k) := Fr.grown HG2.out (fun k hk => hk)
  have f3 := f2.trans HF3.out (fun _ _ h => h)
  exact ⟨_, rfl, H3.out, HB1.out.trans (f3.below HB1.out.size (fun k hk => hlt k hk))⟩
end Go.Proofs.YtnhijofnhflklaaGreat
end

section
/- slices.Delete of one element, at edges and at vertices: in place. -/
namespace Go.Proofs.YtnhijofnhflklaaGreat
open Go.RowKit
/-- What stands behind a deletion. -/
theorem del_list {cur : List Value} {n i k : Nat} {z : List Value} (hi : i < n) (hc : n * k ≤ cur.length) (hz : z.length = k) :
    (over (over cur (i * k) ((cur.take (n * k)).drop ((i + 1) * k))) ((n - 1) * k) z).take ((n - 1) * k) = (cur.take (n * k)).take (i * k) ++ (cur.take (n * k)).drop ((i + 1) * k) := by
  have e1 : (i + 1) * k ≤ n * k := Nat.mul_le_mul_right k hi
  have e2 : (i + 1) * k = i * k + k := Nat.succ_mul i k
  have e3 : (n - 1) * k = n * k - k := by rw [Nat.sub_mul, Nat.one_mul]
  have hl : ((cur.take (n * k)).drop ((i + 1) * k)).length = n * k - (i + 1) * k := by rw [List.length_drop, List.length_take]; omega
  rw [over_take_lo _ _ _ (Nat.le_refl _) (by rw [over_len _ _ _ (by rw [hl]; omega)]; omega)]
  have h5 : (n - 1) * k = i * k + ((cur.take (n * k)).drop ((i + 1) * k)).length := by rw [hl]; omega
  rw [h5, over_take_at _ _ _ (by omega), List.take_take, Nat.min_eq_left (by omega)]

theorem mInfoE : (Tryz.prog.info? 106).map (fun i => (i.zero, i.size, i.bytes)) = some (some (.agg #[.int .i64 0, .int .i64 0]), 2, 16) := by kernel_rfl
set_option maxHeartbeats 4000000 in
set_option maxRecDepth 100000 in
theorem delE_blk {w : World} {base g cap : Nat} {cur : List Value} (h : Blk w base 106 2 g cap cur) (n i j : Nat) (h1 : ∀ u ∈ cur.take (n * 2), u.oneCell' = true) (hj : j = i + 1) (hi : i < n) (hn : n ≤ cap) :
    Calls Tryz.prog 226 #[.slice (some ⟨g, 0, none⟩) n cap, .int .i64 i, .int .i64 j] w fun e w' => e = .returned (.slice (some ⟨g, 0, none⟩) (n - 1) cap) ∧ w' = (w.drew.setCells g (i * 2) ((cur.take (n * 2)).drop ((i + 1) * 2))).setCells g ((n - 1) * 2) [.int .i64 0, .int .i64 0] := by
  obtain ⟨i0, hi0, hz0, hzs, hzb⟩ := info_parts mInfoE
  have hzc : (Builtin.zeroCells (.agg #[.int .i64 0, .int .i64 0] : Value).cells 1).toList = [.int .i64 0, .int .i64 0] := by kernel_rfl
  have hmax : cap ≤ 9223372036854775807 := by have := h.max; unfold maxLen at this; omega
  have hnk : n * 2 ≤ cap * 2 := Nat.mul_le_mul_right _ hn
  have hlc : cur.length = cap * 2 := h.size
  obtain ⟨news, hnews⟩ : ∃ news, news = (cur.take (n * 2)).drop ((i + 1) * 2) := ⟨_, rfl⟩
  have hlen : news.length = (n - (i + 1)) * 2 := by rw [hnews, List.length_drop, List.length_take]; omega
  have hget : ∀ t u, news[t]? = some u → cur[(i + 1) * 2 + t]? = some u := by
    intro t u hu
    rw [hnews, List.getElem?_drop, List.getElem?_take] at hu
    split at hu
    · exact hu
    · cases hu
  obtain ⟨A, hA, hsrc⟩ : ∃ A : Addr, (if cap = j then some (⟨g, 0, none⟩ : Addr) else some ⟨g, j * 2, none⟩) = some A ∧ Hid (∀ t u, news[t]? = some u → w.drew.cell? (A.add t) = some u) := by
    by_cases hc : cap = j
    · refine ⟨⟨g, 0, none⟩, by simp [hc], fun t u hu => ?_⟩
      have h0 : news.length = 0 := by rw [hlen]; omega
      rw [List.length_eq_zero_iff.1 h0] at hu
      simp at hu
    · refine ⟨⟨g, j * 2, none⟩, by simp [hc], fun t u hu => ?_⟩
      rw [Addr.add_lit, hj]
      exact (h.cell _).trans (hget t u hu)
  have s1 : Hid (news.length = (n - j) * 2) := by show _ = _; rw [hj]; exact hlen
  have s2 : Hid (∀ u ∈ news, u.oneCell' = true) := by
    intro u hu
    rw [hnews] at hu
    exact h1 u (List.mem_of_mem_drop hu)
  have s3 : Hid (∀ t, t < news.length → (w.drew.cell? ⟨g, 0 + i * 2 + t, none⟩).isSome = true ∧ w.drew.frozen? ⟨g, 0 + i * 2 + t, none⟩ = false) := by
    intro t ht
    rw [hlen] at ht
    exact ⟨h.there (by omega), h.soft _⟩
  have hB1 := h.drew.set (i * 2) news (by rw [hlen]; omega)
  obtain ⟨W1, hW1⟩ : ∃ W1, W1 = w.drew.setCells g (i * 2) news := ⟨_, rfl⟩
  rw [← hW1] at hB1
  have hcl : ∀ ty, (Builtin.clear_ #[80] ty #[.slice (some ⟨g, (n - 1) * 2, none⟩) (n - (n - 1)) (cap - (n - 1))]).run Tryz.prog W1 = .ok (.tuple #[]) (W1.setCells g ((n - 1) * 2) [.int .i64 0, .int .i64 0]) :=
    fun ty => by
      rw [← hzc, show n - (n - 1) = 1 by omega]
      exact run_clear_k W1 _ _ ty (.agg #[.int .i64 0, .int .i64 0]) Tryz.underlying80 Tryz.zeroValue106 (by decide) (by intro v hv; simp [Value.cells] at hv; rcases hv with rfl | rfl <;> rfl) g ((n - 1) * 2) 1 (cap - (n - 1)) (by decide) (fun j hj => hB1.there (by simp [Value.cells] at hj; omega)) (fun j hj => hB1.soft _)
  have hW : Hid (W1 = w.drew.setCells g (0 + i * 2) news) := by show _ = _; rw [Nat.zero_add]; exact hW1
  have HE : Hid (W1 = w.drew.setCells g (i * 2) news) := hW1
  have hin : i ≤ cap := by omega
  have hjc : j ≤ cap := by omega
  have hin2 : j ≤ n := by omega
  have hij : i ≤ j := by omega
  have hne : ¬ i = j := by omega
  have hsum : i + (n - j) = n - 1 := by omega
  have HJ : Hid (j = i + 1) := hj
  rw [← hnews]
  clear hW1 hB1 hget hnews hlen hlc hnk h h1 hj hzc
  go_enter Tryz.func226, Tryz.ntmps226
  go_wp2_with fail
  go_region_law (refine step_append_room rfl (.tmp 22) (.tmp 25) 80 rfl 106 i0 2 Tryz.underlying80 hi0 hzs g 0 i cap (by simp [Act.eval, Act.put]) A (n - j) (cap - j) news (by simp [Act.eval, Act.put]) s1.out hsrc.out s2.out (by omega) s3.out ?_; rw [← hW.out])
  go_wp2
  go_ret
  exact ⟨rfl, by rw [HE.out]⟩
/-- slices.Delete of one element of a row of one's own. -/
theorem delE_any {w : World} {base : Nat} {v : Value} {n : Nat} {xs : List Value} (h : w.ownsRow base 106 2 v n xs) (h1 : ∀ u ∈ xs, u.oneCell' = true) (i j : Nat) (hj : j = i + 1) (hi : i < n) :
    Calls Tryz.prog 226 #[v, .int .i64 i, .int .i64 j] w fun e w' => ∃ v', e = .returned v' ∧ v'.ownBlock = v.ownBlock ∧ w'.ownsRow base 106 2 v' (n - 1) (xs.take (i * 2) ++ xs.drop ((i + 1) * 2)) ∧ Fr w w' (fun k => v.ownBlock = some k) := by
  obtain ⟨g, cap, cur, rfl, hn, hB, rfl⟩ := own_blk h (by omega)
  have hnk : n * 2 ≤ cap * 2 := Nat.mul_le_mul_right _ hn
  refine (delE_blk hB n i j h1 hj hi hn).mono ?_
  rintro e w' ⟨rfl, rfl⟩
  have hl : ((cur.take (n * 2)).drop ((i + 1) * 2)).length = (n - (i + 1)) * 2 := by rw [List.length_drop, List.length_take, hB.size]; omega
  have hB2 := (hB.drew.set (i * 2) _ (by rw [hl]; omega)).set ((n - 1) * 2) [.int .i64 0, .int .i64 0] (by simp only [List.length_cons, List.length_nil]; omega)
  refine ⟨_, rfl, rfl, ?_, ?_⟩
  · have := hB2.own (n := n - 1) (by omega)
    rw [del_list (k := 2) hi (by rw [hB.size]; exact hnk) rfl] at this
    exact this
  · exact ((Fr.drew w _).trans (fr_setCells g (S := fun k => Value.ownBlock (.slice (some ⟨g, 0, none⟩) n cap) = some k) rfl _ _ _) (fun _ _ h => h)).trans (fr_setCells g (S := fun k => Value.ownBlock (.slice (some ⟨g, 0, none⟩) n cap) = some k) rfl _ _ _) (fun _ _ h => h)

theorem mInfoV : (Tryz.prog.info? 82).map (fun i => (i.zero, i.size, i.bytes)) = some (some (.agg #[.int .i64 0, .int .i64 0, .slice none 0 0]), 3, 40) := by kernel_rfl
set_option maxHeartbeats 4000000 in
set_option maxRecDepth 100000 in
theorem delV_blk {w : World} {base g cap : Nat} {cur : List Value} (h : Blk w base 82 3 g cap cur) (n i j : Nat) (h1 : ∀ u ∈ cur.take (n * 3), u.oneCell' = true) (hj : j = i + 1) (hi : i < n) (hn : n ≤ cap) :
    Calls Tryz.prog 184 #[.slice (some ⟨g, 0, none⟩) n cap, .int .i64 i, .int .i64 j] w fun e w' => e = .returned (.slice (some ⟨g, 0, none⟩) (n - 1) cap) ∧ w' = (w.drew.setCells g (i * 3) ((cur.take (n * 3)).drop ((i + 1) * 3))).setCells g ((n - 1) * 3) [.int .i64 0, .int .i64 0, .slice none 0 0] := by
  obtain ⟨i0, hi0, hz0, hzs, hzb⟩ := info_parts mInfoV
  have hzc : (Builtin.zeroCells (.agg #[.int .i64 0, .int .i64 0, .slice none 0 0] : Value).cells 1).toList = [.int .i64 0, .int .i64 0, .slice none 0 0] := by kernel_rfl
  have hmax : cap ≤ 9223372036854775807 := by have := h.max; unfold maxLen at this; omega
  have hnk : n * 3 ≤ cap * 3 := Nat.mul_le_mul_right _ hn
  have hlc : cur.length = cap * 3 := h.size
  obtain ⟨news, hnews⟩ : ∃ news, news = (cur.take (n * 3)).drop ((i + 1) * 3) := ⟨_, rfl⟩
  have hlen : news.length = (n - (i + 1)) * 3 := by rw [hnews, List.length_drop, List.length_take]; omega
  have hget : ∀ t u, news[t]? = some u → cur[(i + 1) * 3 + t]? = some u := by
    intro t u hu
    rw [hnews, List.getElem?_drop, List.getElem?_take] at hu
    split at hu
    · exact hu
    · cases hu
  obtain ⟨A, hA, hsrc⟩ : ∃ A : Addr, (if cap = j then some (⟨g, 0, none⟩ : Addr) else some ⟨g, j * 3, none⟩) = some A ∧ Hid (∀ t u, news[t]? = some u → w.drew.cell? (A.add t) = some u) := by
    by_cases hc : cap = j
    · refine ⟨⟨g, 0, none⟩, by simp [hc], fun t u hu => ?_⟩
      have h0 : news.length = 0 := by rw [hlen]; omega
      rw [List.length_eq_zero_iff.1 h0] at hu
      simp at hu
    · refine ⟨⟨g, j * 3, none⟩, by simp [hc], fun t u hu => ?_⟩
      rw [Addr.add_lit, hj]
      exact (h.cell _).trans (hget t u hu)
  have s1 : Hid (news.length = (n - j) * 3) := by show _ = _; rw [hj]; exact hlen
  have s2 : Hid (∀ u ∈ news, u.oneCell' = true) := by
    intro u hu
    rw [hnews] at hu
    exact h1 u (List.mem_of_mem_drop hu)
  have s3 : Hid (∀ t, t < news.length → (w.drew.cell? ⟨g, 0 + i * 3 + t, none⟩).isSome = true ∧ w.drew.frozen? ⟨g, 0 + i * 3 + t, none⟩ = false) := by
    intro t ht
    rw [hlen] at ht
    exact ⟨h.there (by omega), h.soft _⟩
  have hB1 := h.drew.set (i * 3) news (by rw [hlen]; omega)
  obtain ⟨W1, hW1⟩ : ∃ W1, W1 = w.drew.setCells g (i * 3) news := ⟨_, rfl⟩
  rw [← hW1] at hB1
  have hcl : ∀ ty, (Builtin.clear_ #[22] ty #[.slice (some ⟨g, (n - 1) * 3, none⟩) (n - (n - 1)) (cap - (n - 1))]).run Tryz.prog W1 = .ok (.tuple #[]) (W1.setCells g ((n - 1) * 3) [.int .i64 0, .int .i64 0, .slice none 0 0]) :=
    fun ty => by
      rw [← hzc, show n - (n - 1) = 1 by omega]
      exact run_clear_k W1 _ _ ty (.agg #[.int .i64 0, .int .i64 0, .slice none 0 0]) Tryz.underlying22 Tryz.zeroValue82 (by decide) (by intro v hv; simp [Value.cells] at hv; rcases hv with rfl | rfl | rfl <;> rfl) g ((n - 1) * 3) 1 (cap - (n - 1)) (by decide) (fun j hj => hB1.there (by simp [Value.cells] at hj; omega)) (fun j hj => hB1.soft _)
  have hW : Hid (W1 = w.drew.setCells g (0 + i * 3) news) := by show _ = _; rw [Nat.zero_add]; exact hW1
  have HE : Hid (W1 = w.drew.setCells g (i * 3) news) := hW1
  have hin : i ≤ cap := by omega
  have hjc : j ≤ cap := by omega
  have hin2 : j ≤ n := by omega
  have hij : i ≤ j := by omega
  have hne : ¬ i = j := by omega
  have hsum : i + (n - j) = n - 1 := by omega
  have HJ : Hid (j = i + 1) := hj
  rw [← hnews]
  clear hW1 hB1 hget hnews hlen hlc hnk h h1 hj hzc
  go_enter Tryz.func184, Tryz.ntmps184
  go_wp2_with fail
  go_region_law (refine step_append_room rfl (.tmp 22) (.tmp 25) 22 rfl 82 i0 3 Tryz.underlying22 hi0 hzs g 0 i cap (by simp [Act.eval, Act.put]) A (n - j) (cap - j) news (by simp [Act.eval, Act.put]) s1.out hsrc.out s2.out (by omega) s3.out ?_; rw [← hW.out])
  go_wp2
  go_ret
  exact ⟨rfl, by rw [HE.out]⟩
/-- slices.Delete of one element of a row of one's own. -/
theorem delV_any {w : World} {base : Nat} {v : Value} {n : Nat} {xs : List Value} (h : w.ownsRow base 82 3 v n xs) (h1 : ∀ u ∈ xs, u.oneCell' = true) (i j : Nat) (hj : j = i + 1) (hi : i < n) :
    Calls Tryz.prog 184 #[v, .int .i64 i, .int .i64 j] w fun e w' => ∃ v', e = .returned v' ∧ v'.ownBlock = v.ownBlock ∧ w'.ownsRow base 82 3 v' (n - 1) (xs.take (i * 3) ++ xs.drop ((i + 1) * 3)) ∧ Fr w w' (fun k => v.ownBlock = some k) := by
  obtain ⟨g, cap, cur, rfl, hn, hB, rfl⟩ := own_blk h (by omega)
  have hnk : n * 3 ≤ cap * 3 := Nat.mul_le_mul_right _ hn
  refine (delV_blk hB n i j h1 hj hi hn).mono ?_
  rintro e w' ⟨rfl, rfl⟩
  have hl : ((cur.take (n * 3)).drop ((i + 1) * 3)).length = (n - (i + 1)) * 3 := by rw [List.length_drop, List.length_take, hB.size]; omega
  have hB2 := (hB.drew.set (i * 3) _ (by rw [hl]; omega)).set ((n - 1) * 3) [.int .i64 0, .int .i64 0, .slice none 0 0] (by simp only [List.length_cons, List.length_nil]; omega)
  refine ⟨_, rfl, rfl, ?_, ?_⟩
  · have := hB2.own (n := n - 1) (by omega)
    rw [del_list (k := 3) hi (by rw [hB.size]; exact hnk) rfl] at this
    exact this
  · exact ((Fr.drew w _).trans (fr_setCells g (S := fun k => Value.ownBlock (.slice (some ⟨g, 0, none⟩) n cap) = some k) rfl _ _ _) (fun _ _ h => h)).trans (fr_setCells g (S := fun k => Value.ownBlock (.slice (some ⟨g, 0, none⟩) n cap) = some k) rfl _ _ _) (fun _ _ h => h)
end Go.Proofs.YtnhijofnhflklaaGreat
end
