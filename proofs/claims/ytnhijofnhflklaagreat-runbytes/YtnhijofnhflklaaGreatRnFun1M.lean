import Derived.Test.YtnhijofnhflklaaGreatRnSymM
import Derived.Shelf.SlSortCmp.NoneTotal
import Derived.Shelf.SlicesE.Clone
import Derived.Shelf.SlGeneric
import Derived.Test.YtnhijofnhflklaaGreatProg
import Derived.Test.YtnhijofnhflklaaGreatRnTurn2M
import Derived.Deep.RegionHeld
import Derived.Test.YtnhijofnhflklaaGreatMoOthM
import Derived.Deep.Cut
import Derived.Deep.DeepCutAuto
section
/- slices.stableCmpFunc and SortStableFunc over places in order. -/
namespace Go.Proofs.YtnhijofnhflklaaGreat
open Go.RowKit
set_option maxRecDepth 100000 in
set_option maxHeartbeats 2000000 in
theorem stable_any {w : World} {lb : Value} {D n cap : Nat} {K : Nat → Nat → Int} (hD : PlAt w D n) (hC : CmpAt w lb n K) (hn : n ≤ 1073741824) :
    Calls Tryz.prog 165 #[.slice (some ⟨D, 0, none⟩) n cap, .int .i64 n, .func (.func 133) #[] #[lb]] w fun r w' => r = .returned (.tuple #[]) ∧ ∃ m, w' = w.drewN m := by
  have HD : Hid (PlAt w D n) := hD
  have HC : Hid (CmpAt w lb n K) := hC
  clear hD hC
  go_enter Tryz.func165, Tryz.ntmps165
  go_wp2
  go_loopw [7, 8] (fun u v wr => ∃ (a q : Nat), a ≤ n ∧ u = .int .i64 a ∧ v = .int .i64 ((a + 20 : Nat) : Int) ∧ wr = w.drewN q) (fun u _ _ => n - (intOf u).toNat)
  case atStart => exact ⟨0, 0, Nat.zero_le _, rfl, rfl, rfl⟩
  case round =>
    obtain ⟨a, q, han, rfl, rfl, hw⟩ := hrel
    have HDr : Hid (PlAt wr D n) := by rw [hw]; exact HD.out
    have HCr : Hid (CmpAt wr lb n K) := by rw [hw]; exact HC.out.drewN q
    have HW : Hid _ := hw
    clear hw
    by_cases hlt : a + 20 ≤ n
    · go_wp2_with (go_at_call 196; refine (insS_any HDr.out HCr.out hn a (a + 20) (by omega) hlt).mono ?_; rintro r w1 ⟨rfl, q1, rfl⟩)
      go_roundw
      case rel => exact ⟨a + 20, _, hlt, rfl, by go_num, by rw [HW.out, World.drewN_drewN]⟩
      case measure => simp [intOf]; omega
    · go_wp2_with (go_at_call 196; refine (insS_any HDr.out HCr.out hn a n han (Nat.le_refl _)).mono ?_; rintro r w1 ⟨rfl, q1, rfl⟩)
      go_loopw [6, 7, 8, 9] (fun z _ _ _ wr => ∃ (s q : Nat), 0 < s ∧ s ≤ 2147483648 ∧ z = .int .i64 s ∧ wr = w.drewN q) (fun z _ _ _ _ => n - (intOf z).toNat)
      case atStart => exact ⟨20, _, by omega, by omega, rfl, by rw [HW.out, World.drewN_drewN]⟩
      case round =>
        obtain ⟨s, q, hs0, hs1, rfl, hw⟩ := hrel
        clear HDr HCr HW
        have HDr : Hid (PlAt wr D n) := by rw [hw]; exact HD.out
        have HCr : Hid (CmpAt wr lb n K) := by rw [hw]; exact HC.out.drewN q
        have HW : Hid _ := hw
        clear hw
        by_cases hsn : s < n
        · go_wp2
          go_loopw [7, 8] (fun u v wr => ∃ (a q : Nat), a ≤ n ∧ u = .int .i64 a ∧ v = .int .i64 ((a : Int) + 2 * (s : Int)) ∧ wr = w.drewN q) (fun u _ _ => n - (intOf u).toNat)
          case atStart => exact ⟨0, q, Nat.zero_le _, rfl, by simp, HW.out⟩
          case round =>
            obtain ⟨a, q, han, rfl, rfl, hw⟩ := hrel
            clear HDr HCr HW
            have HDr : Hid (PlAt wr D n) := by rw [hw]; exact HD.out
            have HCr : Hid (CmpAt wr lb n K) := by rw [hw]; exact HC.out.drewN q
            have HW : Hid _ := hw
            clear hw
            by_cases hlt : a + 2 * s ≤ n
            · have HY : Hid (Calls Tryz.prog 197 #[.slice (some ⟨D, 0, none⟩) n cap, .int .i64 a, .int .i64 ((a : Int) + (s : Int)), .int .i64 ((a : Int) + 2 * (s : Int)), .func (.func 133) #[] #[lb]] wr fun r w' => r = .returned (.tuple #[]) ∧ ∃ m, w' = wr.drewN m) := by
                show Calls _ _ _ _ _
                rw [show ((a : Int) + (s : Int)) = ((a + s : Nat) : Int) by omega, show ((a : Int) + 2 * (s : Int)) = ((a + 2 * s : Nat) : Int) by omega]
                exact sym_any (cap := cap) hn _ a (a + s) (a + 2 * s) (Nat.le_refl _) (by omega) (by omega) hlt _ HDr.out HCr.out
              go_wp2_with (go_at_call 197; refine Calls.mono HY.out ?_; rintro r w1 ⟨rfl, q1, rfl⟩)
              go_roundw
              case rel => exact ⟨a + 2 * s, _, hlt, by go_num, by go_num, by rw [HW.out, World.drewN_drewN]⟩
              case measure => simp [intOf]; omega
            · by_cases hm : a + s < n
              · have HY : Hid (Calls Tryz.prog 197 #[.slice (some ⟨D, 0, none⟩) n cap, .int .i64 a, .int .i64 ((a : Int) + (s : Int)), .int .i64 n, .func (.func 133) #[] #[lb]] wr fun r w' => r = .returned (.tuple #[]) ∧ ∃ m, w' = wr.drewN m) := by
                  show Calls _ _ _ _ _
                  rw [show ((a : Int) + (s : Int)) = ((a + s : Nat) : Int) by omega]
                  exact sym_any (cap := cap) hn _ a (a + s) n (Nat.le_refl _) (by omega) hm (Nat.le_refl _) _ HDr.out HCr.out
                go_wp2_with (go_at_call 197; refine Calls.mono HY.out ?_; rintro r w1 ⟨rfl, q1, rfl⟩)
                go_roundw
                case rel => exact ⟨2 * s, _, by omega, by omega, by go_num, by rw [HW.out, World.drewN_drewN]⟩
                case measure => simp [intOf]; omega
              · go_wp2
                go_roundw
                case rel => exact ⟨2 * s, _, by omega, by omega, by go_num, HW.out⟩
                case measure => simp [intOf]; omega
        · go_wp2
          go_end0
          exact ⟨rfl, q, HW.out⟩
set_option maxRecDepth 100000 in
theorem sortStable_any {w : World} {lb : Value} {D n cap : Nat} {K : Nat → Nat → Int} (hD : PlAt w D n) (hC : CmpAt w lb n K) (hn : n ≤ 1073741824) :
    Calls Tryz.prog 132 #[.slice (some ⟨D, 0, none⟩) n cap, .func (.func 133) #[] #[lb]] w fun r w' => r = .returned (.tuple #[]) ∧ ∃ m, w' = w.drewN m := by
  have HS : Hid _ := stable_any (cap := cap) hD hC hn
  clear hD hC
  go_enter Tryz.func132, Tryz.ntmps132
  go_wp2_with (go_at_call 165; refine Calls.mono HS.out ?_; rintro r w1 ⟨rfl, q1, rfl⟩)
  go_end0
  exact ⟨rfl, q1, rfl⟩
set_option maxRecDepth 100000 in
/-- Of no places. -/
theorem sortStable_nil {w : World} {lb : Value} : Calls Tryz.prog 132 #[.slice none 0 0, .func (.func 133) #[] #[lb]] w fun r w' => r = .returned (.tuple #[]) ∧ ∃ m, w' = w.drewN m := by
  have hI : ∀ w, Calls Tryz.prog 196 #[.slice none 0 0, .int .i64 0, .int .i64 0, .func (.func 133) #[] #[lb]] w fun r w' => r = .returned (.tuple #[]) ∧ w' = w := by
    intro w
    go_enter Tryz.func196, Tryz.ntmps196
    go_wp2
    refine wp_loop_rounds 1 ?_
    rw [rounds_succ]
    go_wp2
    go_end0
    exact ⟨rfl, rfl⟩
  have hS : ∀ w, Calls Tryz.prog 165 #[.slice none 0 0, .int .i64 0, .func (.func 133) #[] #[lb]] w fun r w' => r = .returned (.tuple #[]) ∧ w' = w := by
    intro w
    go_enter Tryz.func165, Tryz.ntmps165
    go_wp2
    refine wp_loop_rounds 1 ?_
    rw [rounds_succ]
    go_wp2_with (go_at_call 196; refine (hI _).mono ?_; rintro r w1 ⟨rfl, rfl⟩)
    refine wp_loop_rounds 1 ?_
    rw [rounds_succ]
    go_wp2
    go_end0
    exact ⟨rfl, rfl⟩
  go_enter Tryz.func132, Tryz.ntmps132
  go_wp2_with (go_at_call 165; refine (hS _).mono ?_; rintro r w1 ⟨rfl, rfl⟩)
  go_end0
  exact ⟨rfl, 0, rfl⟩
end Go.Proofs.YtnhijofnhflklaaGreat
end

section
/- The library's sort and clone at messages: which of the program's functions are the library's. -/
namespace Go.Proofs.YtnhijofnhflklaaGreat
open Go.Shelf Go.Proofs
def layClone_ren : Go.Shelf.Ren := ⟨fun | 41 => 167 | n => n, fun | 22 => 87 | 23 => 93 | 4 => 4 | n => n, fun | n => n⟩
theorem layClone : Go.Proofs.SlLaysE0.n41 Tryz.prog layClone_ren := {
  mixed := by kernel_rfl,
  f41 := ⟨Tryz.f167.name, by decide, Tryz.func167.trans (congrArg some (by kernel_rfl))⟩,
  t4 := Tryz.underlying4,
  a4 := Tryz.isAgg4,
  z4 := Tryz.sizeOf4,
  v4 := Tryz.zeroValue4,
  t22 := Tryz.underlying87,
  a22 := Tryz.isAgg87,
  z22 := Tryz.sizeOf87,
  v22 := Tryz.zeroValue87 }
def laySort_ren : Go.Shelf.Ren := ⟨fun | 6 => 199 | 14 => 232 | 15 => 222 | 20 => 266 | 21 => 267 | 22 => 268 | 23 => 269 | 24 => 270 | 25 => 271 | 26 => 272 | 27 => 273 | 28 => 257 | 29 => 258 | 46 => 285 | 47 => 279 | 48 => 280 | 49 => 286 | 50 => 287 | 57 => 294 | n => n, fun | 22 => 87 | 24 => 93 | 25 => 289 | 3 => 3 | 39 => 246 | 0 => 0 | 53 => 329 | 55 => 121 | 4 => 4 | 46 => 323 | 45 => 322 | 50 => 98 | 5 => 5 | 9 => 9 | 66 => 344 | 70 => 347 | 76 => 356 | 77 => 357 | n => n, fun | n => n⟩
theorem laySort : Go.Proofs.SlLaysF0.n6 Tryz.prog laySort_ren := {
  mixed := by kernel_rfl,
  f6 := ⟨Tryz.f199.name, by decide, Tryz.func199.trans (congrArg some (by kernel_rfl))⟩,
  f14 := ⟨Tryz.f232.name, by decide, Tryz.func232.trans (congrArg some (by kernel_rfl))⟩,
  f15 := Tryz.func222.trans (congrArg some (by kernel_rfl)),
  f20 := ⟨Tryz.f266.name, by decide, Tryz.func266.trans (congrArg some (by kernel_rfl))⟩,
  f21 := ⟨Tryz.f267.name, by decide, Tryz.func267.trans (congrArg some (by kernel_rfl))⟩,
  f22 := ⟨Tryz.f268.name, by decide, Tryz.func268.trans (congrArg some (by kernel_rfl))⟩,
  f23 := ⟨Tryz.f269.name, by decide, Tryz.func269.trans (congrArg some (by kernel_rfl))⟩,
  f24 := ⟨Tryz.f270.name, by decide, Tryz.func270.trans (congrArg some (by kernel_rfl))⟩,
  f25 := ⟨Tryz.f271.name, by decide, Tryz.func271.trans (congrArg some (by kernel_rfl))⟩,
  f26 := ⟨Tryz.f272.name, by decide, Tryz.func272.trans (congrArg some (by kernel_rfl))⟩,
  f27 := ⟨Tryz.f273.name, by decide, Tryz.func273.trans (congrArg some (by kernel_rfl))⟩,
  f28 := Tryz.func257.trans (congrArg some (by kernel_rfl)),
  f29 := Tryz.func258.trans (congrArg some (by kernel_rfl)),
  f46 := ⟨Tryz.f285.name, by decide, Tryz.func285.trans (congrArg some (by kernel_rfl))⟩,
  f47 := Tryz.func279.trans (congrArg some (by kernel_rfl)),
  f48 := Tryz.func280.trans (congrArg some (by kernel_rfl)),
  f49 := ⟨Tryz.f286.name, by decide, Tryz.func286.trans (congrArg some (by kernel_rfl))⟩,
  f50 := ⟨Tryz.f287.name, by decide, Tryz.func287.trans (congrArg some (by kernel_rfl))⟩,
  f57 := ⟨Tryz.f294.name, by decide, Tryz.func294.trans (congrArg some (by kernel_rfl))⟩,
  t0 := Tryz.underlying0,
  a0 := Tryz.isAgg0,
  z0 := Tryz.sizeOf0,
  v0 := Tryz.zeroValue0,
  t3 := Tryz.underlying3,
  a3 := Tryz.isAgg3,
  z3 := Tryz.sizeOf3,
  v3 := Tryz.zeroValue3,
  t4 := Tryz.underlying4,
  a4 := Tryz.isAgg4,
  z4 := Tryz.sizeOf4,
  v4 := Tryz.zeroValue4,
  t5 := Tryz.underlying5,
  a5 := Tryz.isAgg5,
  z5 := Tryz.sizeOf5,
  v5 := Tryz.zeroValue5,
  t9 := Tryz.underlying9,
  a9 := Tryz.isAgg9,
  z9 := Tryz.sizeOf9,
  v9 := Tryz.zeroValue9,
  t22 := Tryz.underlying87,
  a22 := Tryz.isAgg87,
  z22 := Tryz.sizeOf87,
  v22 := Tryz.zeroValue87,
  t25 := Tryz.underlying289,
  a25 := Tryz.isAgg289,
  z25 := Tryz.sizeOf289,
  v25 := Tryz.zeroValue289,
  t39 := Tryz.underlying246,
  a39 := Tryz.isAgg246,
  z39 := Tryz.sizeOf246,
  v39 := Tryz.zeroValue246,
  t45 := Tryz.underlying322,
  a45 := Tryz.isAgg322,
  z45 := Tryz.sizeOf322,
  v45 := Tryz.zeroValue322,
  t46 := Tryz.underlying323,
  a46 := Tryz.isAgg323,
  z46 := Tryz.sizeOf323,
  v46 := Tryz.zeroValue323,
  t50 := Tryz.underlying98,
  a50 := Tryz.isAgg98,
  z50 := Tryz.sizeOf98,
  v50 := Tryz.zeroValue98,
  t53 := Tryz.underlying329,
  a53 := Tryz.isAgg329,
  z53 := Tryz.sizeOf329,
  v53 := Tryz.zeroValue329,
  t55 := Tryz.underlying121,
  a55 := Tryz.isAgg121,
  z55 := Tryz.sizeOf121,
  v55 := Tryz.zeroValue121,
  t66 := Tryz.underlying344,
  a66 := Tryz.isAgg344,
  z66 := Tryz.sizeOf344,
  v66 := Tryz.zeroValue344,
  t70 := Tryz.underlying347,
  a70 := Tryz.isAgg347,
  z70 := Tryz.sizeOf347,
  v70 := Tryz.zeroValue347,
  t76 := Tryz.underlying356,
  a76 := Tryz.isAgg356,
  z76 := Tryz.sizeOf356,
  v76 := Tryz.zeroValue356,
  t77 := Tryz.underlying357,
  a77 := Tryz.isAgg357,
  z77 := Tryz.sizeOf357,
  v77 := Tryz.zeroValue357 }
end Go.Proofs.YtnhijofnhflklaaGreat
end

section
/- Compare: which of two messages stands first. -/
namespace Go.Proofs.YtnhijofnhflklaaGreat
open Go.RowKit
theorem nan64 (x : Int) (w : World) : Calls Tryz.prog 166 #[.int .i64 x] w fun e w' => e = .returned (.bool false) ∧ w' = w := by
  have hx : (x != x) = false := by simp
  go_enter Tryz.func166, Tryz.ntmps166
  go_wp2
  go_ret
  exact ⟨by simp, rfl⟩
theorem nanI (x : Int) (w : World) : Calls Tryz.prog 259 #[.int .i64 x] w fun e w' => e = .returned (.bool false) ∧ w' = w := by
  have hx : (x != x) = false := by simp
  go_enter Tryz.func259, Tryz.ntmps259
  go_wp2
  go_ret
  exact ⟨by simp, rfl⟩
theorem cmp64 (x y : Int) (w : World) : Calls Tryz.prog 134 #[.int .i64 x, .int .i64 y] w fun e w' => e = .returned (.int .i64 (c3 x y)) ∧ w' = w := by
  by_cases h : x < y
  · have e : c3 x y = -1 := by unfold c3; rw [if_pos h]
    rw [e]
    go_enter Tryz.func134, Tryz.ntmps134
    go_wp2_with (go_at_call 166; refine (nan64 _ _).mono ?_; rintro r w1 ⟨rfl, rfl⟩)
    go_ret
    exact ⟨rfl, rfl⟩
  · by_cases h' : y < x
    · have e : c3 x y = 1 := by unfold c3; rw [if_neg h, if_pos h']
      rw [e]
      go_enter Tryz.func134, Tryz.ntmps134
      go_wp2_with (go_at_call 166; refine (nan64 _ _).mono ?_; rintro r w1 ⟨rfl, rfl⟩)
      go_ret
      exact ⟨rfl, rfl⟩
    · have e : c3 x y = 0 := by unfold c3; rw [if_neg h, if_neg h']
      rw [e]
      go_enter Tryz.func134, Tryz.ntmps134
      go_wp2_with (go_at_call 166; refine (nan64 _ _).mono ?_; rintro r w1 ⟨rfl, rfl⟩)
      go_ret
      exact ⟨rfl, rfl⟩
theorem cmpInt (x y : Int) (w : World) : Calls Tryz.prog 224 #[.int .i64 x, .int .i64 y] w fun e w' => e = .returned (.int .i64 (c3 x y)) ∧ w' = w := by
  by_cases h : x < y
  · have e : c3 x y = -1 := by unfold c3; rw [if_pos h]
    rw [e]
    go_enter Tryz.func224, Tryz.ntmps224
    go_wp2_with (go_at_call 259; refine (nanI _ _).mono ?_; rintro r w1 ⟨rfl, rfl⟩)
    go_ret
    exact ⟨rfl, rfl⟩
  · by_cases h' : y < x
    · have e : c3 x y = 1 := by unfold c3; rw [if_neg h, if_pos h']
      rw [e]
      go_enter Tryz.func224, Tryz.ntmps224
      go_wp2_with (go_at_call 259; refine (nanI _ _).mono ?_; rintro r w1 ⟨rfl, rfl⟩)
      go_ret
      exact ⟨rfl, rfl⟩
    · have e : c3 x y = 0 := by unfold c3; rw [if_neg h, if_neg h']
      rw [e]
      go_enter Tryz.func224, Tryz.ntmps224
      go_wp2_with (go_at_call 259; refine (nanI _ _).mono ?_; rintro r w1 ⟨rfl, rfl⟩)
      go_ret
      exact ⟨rfl, rfl⟩
def orV (a b c d : Int) : Int := if a ≠ 0 then a else if b ≠ 0 then b else if c ≠ 0 then c else d
set_option maxRecDepth 100000 in
theorem or4 {w : World} {g : Nat} {a b c d : Int} (h : w.heap[g]? = some (.cells #[.int .i64 a, .int .i64 b, .int .i64 c, .int .i64 d] 3 (0, 0))) : Calls Tryz.prog 223 #[.slice (some ⟨g, 0, none⟩) 4 4] w fun e w' => e = .returned (.int .i64 (orV a b c d)) ∧ w' = w := by
  obtain ⟨k0, k1, k2, k3⟩ := m_cells h
  by_cases h0 : a = 0
  · subst h0
    by_cases h1 : b = 0
    · subst h1
      by_cases h2 : c = 0
      · subst h2
        by_cases h3 : d = 0
        · subst h3
          go_enter Tryz.func223, Tryz.ntmps223
          go_wp2
          refine wp_loop_rounds 5 ?_
          rw [rounds_succ]
          go_wp2
          rw [rounds_succ]
          go_wp2
          rw [rounds_succ]
          go_wp2
          rw [rounds_succ]
          go_wp2
          rw [rounds_succ]
          go_wp2
          go_ret
          exact ⟨rfl, rfl⟩
        · have e3 : (d != 0) = true := by simpa using h3
          go_enter Tryz.func223, Tryz.ntmps223
          go_wp2
          refine wp_loop_rounds 5 ?_
          rw [rounds_succ]
          go_wp2
          rw [rounds_succ]
          go_wp2
          rw [rounds_succ]
          go_wp2
          rw [rounds_succ]
          go_wp2
          go_ret
          exact ⟨rfl, rfl⟩
      · have e2 : (c != 0) = true := by simpa using h2
        go_enter Tryz.func223, Tryz.ntmps223
        go_wp2
        refine wp_loop_rounds 5 ?_
        rw [rounds_succ]
        go_wp2
        rw [rounds_succ]
        go_wp2
        rw [rounds_succ]
        go_wp2
        go_ret
        exact ⟨by simp [orV, h2], rfl⟩
    · have e1 : (b != 0) = true := by simpa using h1
      go_enter Tryz.func223, Tryz.ntmps223
      go_wp2
      refine wp_loop_rounds 5 ?_
      rw [rounds_succ]
      go_wp2
      rw [rounds_succ]
      go_wp2
      go_ret
      exact ⟨by simp [orV, h1], rfl⟩
  · have e0 : (a != 0) = true := by simpa using h0
    go_enter Tryz.func223, Tryz.ntmps223
    go_wp2
    refine wp_loop_rounds 5 ?_
    rw [rounds_succ]
    go_wp2
    go_ret
    exact ⟨by simp [orV, h0], rfl⟩
theorem m_eight {W : World} {p q : Nat} {x y : Msg} (hp : W.heap[p]? = some (.cells #[.int .i64 x.f, .int .i64 x.t, .int .i64 x.a, .int .i64 x.v] 93 (0, 0))) (hq : W.heap[q]? = some (.cells #[.int .i64 y.f, .int .i64 y.t, .int .i64 y.a, .int .i64 y.v] 93 (0, 0))) :
    (W.cell? ⟨p, 0, none⟩ = some (.int .i64 x.f) ∧ W.cell? ⟨p, 1, none⟩ = some (.int .i64 x.t) ∧ W.cell? ⟨p, 2, none⟩ = some (.int .i64 x.a) ∧ W.cell? ⟨p, 3, none⟩ = some (.int .i64 x.v)) ∧ W.cell? ⟨q, 0, none⟩ = some (.int .i64 y.f) ∧ W.cell? ⟨q, 1, none⟩ = some (.int .i64 y.t) ∧ W.cell? ⟨q, 2, none⟩ = some (.int .i64 y.a) ∧ W.cell? ⟨q, 3, none⟩ = some (.int .i64 y.v) := ⟨m_cells hp, m_cells hq⟩
set_option maxRecDepth 100000 in
set_option maxHeartbeats 1000000 in
theorem compare_msg (x y : Msg) (w : World) : Calls Tryz.prog 200 #[.agg #[.int .i64 x.f, .int .i64 x.t, .int .i64 x.a, .int .i64 x.v], .agg #[.int .i64 y.f, .int .i64 y.t, .int .i64 y.a, .int .i64 y.v]] w fun e w' => e = .returned (.int .i64 (cmpM x y)) ∧ ∃ q os, w' = Sort.grow (w.drewN q) os := by
  go_enter Tryz.func200, Tryz.ntmps200
  go_upto_region 1 with (fail)
  have hp := (Below.heap_alloc (w.alloc (.cells #[.int .i64 x.f, .int .i64 x.t, .int .i64 x.a, .int .i64 x.v] 93)) (.cells #[.int .i64 y.f, .int .i64 y.t, .int .i64 y.a, .int .i64 y.v] 93) w.heap.size (by simp)).trans (heap_alloc_new w (.cells #[.int .i64 x.f, .int .i64 x.t, .int .i64 x.a, .int .i64 x.v] 93))
  have hq := heap_alloc_new (w.alloc (.cells #[.int .i64 x.f, .int .i64 x.t, .int .i64 x.a, .int .i64 x.v] 93)) (.cells #[.int .i64 y.f, .int .i64 y.t, .int .i64 y.a, .int .i64 y.v] 93)
  have hW : (w.alloc (.cells #[.int .i64 x.f, .int .i64 x.t, .int .i64 x.a, .int .i64 x.v] 93)).alloc (.cells #[.int .i64 y.f, .int .i64 y.t, .int .i64 y.a, .int .i64 y.v] 93) = Sort.grow w #[(.cells #[.int .i64 x.f, .int .i64 x.t, .int .i64 x.a, .int .i64 x.v] 93), (.cells #[.int .i64 y.f, .int .i64 y.t, .int .i64 y.a, .int .i64 y.v] 93)] := by rw [Sort.alloc_eq_grow, Sort.alloc_eq_grow, Sort.grow_grow]; rfl
  rw [World.size_alloc] at hq
  rw [hW] at hp hq
  have HW : Hid _ := hW
  simp only [hW]
  clear hW
  generalize hWW : Sort.grow w #[(.cells #[.int .i64 x.f, .int .i64 x.t, .int .i64 x.a, .int .i64 x.v] 93), (.cells #[.int .i64 y.f, .int .i64 y.t, .int .i64 y.a, .int .i64 y.v] 93)] = W at hp hq HW ⊢
  have HWW : Hid _ := hWW
  clear hWW HW
  generalize w.heap.size + 1 = q at hq ⊢
  generalize w.heap.size = p at hp ⊢
  have x0 := m_eight hp hq
  have HX : Hid _ := x0
  have x1 := fun o => m_eight ((Below.heap_alloc W o p (m_lt hp)).trans hp) ((Below.heap_alloc W o q (m_lt hq)).trans hq)
  clear hp hq
  go_region_held (fun w' => (w'.cell? ⟨p, 0, none⟩ = some (.int .i64 x.f) ∧ w'.cell? ⟨p, 1, none⟩ = some (.int .i64 x.t) ∧ w'.cell? ⟨p, 2, none⟩ = some (.int .i64 x.a) ∧ w'.cell? ⟨p, 3, none⟩ = some (.int .i64 x.v)) ∧ w'.cell? ⟨q, 0, none⟩ = some (.int .i64 y.f) ∧ w'.cell? ⟨q, 1, none⟩ = some (.int .i64 y.t) ∧ w'.cell? ⟨q, 2, none⟩ = some (.int .i64 y.a) ∧ w'.cell? ⟨q, 3, none⟩ = some (.int .i64 y.v)) (first | exact x1 _ | exact x0)
    (first
    | (go_at_call 134; refine (cmp64 _ _ _).mono ?_; rintro e w1 ⟨rfl, rfl⟩)
    | (go_at_call 224; refine (cmpInt _ _ _).mono ?_; rintro e w1 ⟨rfl, rfl⟩)
    | (go_at_call 223; refine (or4 (w := (W.alloc (.cells #[.int .i64 (c3 x.t y.t), .int .i64 (c3 x.f y.f), .int .i64 (c3 x.a y.a), .int .i64 (c3 x.v y.v)] 3)).drew) (g := W.heap.size) (heap_alloc_new W _)).mono ?_; rintro e w1 ⟨rfl, rfl⟩))
  all_goals
    clear x0 x1 HX
    go_wp2
    go_ret
    refine ⟨rfl, 1, #[(.cells #[.int .i64 x.f, .int .i64 x.t, .int .i64 x.a, .int .i64 x.v] 93), (.cells #[.int .i64 y.f, .int .i64 y.t, .int .i64 y.a, .int .i64 y.v] 93)] ++ #[.cells #[.int .i64 (c3 x.t y.t), .int .i64 (c3 x.f y.f), .int .i64 (c3 x.a y.a), .int .i64 (c3 x.v y.v)] 3], ?_⟩
    rw [← HWW.out, Sort.alloc_eq_grow, Sort.grow_grow, Sort.drew_grow]
    rfl
end Go.Proofs.YtnhijofnhflklaaGreat
end

section
/- sorted: a list of its own, in order. -/
namespace Go.Proofs.YtnhijofnhflklaaGreat
open Go.RowKit Go.Sort
theorem flat_at (L : List Msg) (q r : Nat) (hq : q < L.length) (hr : r < 4) : (L.flatMap msgCells)[q * 4 + r]? = (msgCells L[q])[r]? := by
  obtain ⟨a0, a1, a2, a3⟩ := cells_get L q hq
  match r, hr with
  | 0, _ => rw [Nat.add_zero, a0]; rfl
  | 1, _ => rw [a1]; rfl
  | 2, _ => rw [a2]; rfl
  | 3, _ => rw [a3]; rfl
theorem flat_get (L : List Msg) (t : Nat) (h : t < L.length * 4) : (L.flatMap msgCells)[t]? = (msgCells (L[t / 4]'(by omega)))[t % 4]? := by
  rw [← flat_at L (t / 4) (t % 4) (by omega) (by omega)]
  congr 1
  omega
theorem flatK_list [Inhabited Msg] (L : List Msg) : flatK msgCells 4 L.toArray = (L.flatMap msgCells).toArray := by
  apply Array.ext
  · rw [size_flatK, List.size_toArray, List.size_toArray, msg_len]
  · intro t h1 h2
    rw [size_flatK, List.size_toArray] at h1
    have e := get_flatK msgCells 4 L.toArray t (by simpa using h1)
    rw [getElem!_pos _ t (by rw [size_flatK]; simpa using h1)] at e
    rw [e, List.getElem_toArray]
    have hj : t / 4 < L.length := by omega
    have e2 := flat_get L t h1
    rw [List.getElem?_eq_getElem (by rw [msg_len]; exact h1)] at e2
    have e3 : L.toArray[t / 4]! = L[t / 4] := by rw [getElem!_pos L.toArray (t / 4) (by simpa using hj)]; simp
    rw [e3]
    have h4 : t % 4 < (msgCells L[t / 4]).length := by simp [msgCells]; omega
    rw [getElem!_pos (msgCells L[t / 4]) (t % 4) h4]
    rw [List.getElem?_eq_getElem h4] at e2
    exact (Option.some.inj e2).symm
theorem take_put (cur : Array Value) (xs : List Value) (h : xs.length ≤ cur.size) : (putCells id 0 xs.toArray cur).toList.take xs.length = xs := by
  apply List.ext_getElem?
  intro j
  by_cases hj : j < xs.length
  · rw [List.getElem?_take_of_lt hj, Array.getElem?_toList]
    simp [putCells, hj, show j < cur.size by omega]
  · rw [List.getElem?_take_eq_none (by omega), List.getElem?_eq_none (by omega)]
theorem sorted_heap [Inhabited Msg] {w : World} {g n : Nat} {os : Array Obj} {cur : Array Value} {e : TypeId} (L : List Msg) (hb : w.heap[g]? = some (.cells cur e (0, 0))) :
    (sortWorldK msgCells 4 w g 0 n L.toArray os).heap[g]? = some (.cells (putCells id 0 (L.flatMap msgCells).toArray cur) e (0, 0)) := by
  have hg : g < w.heap.size := (Array.getElem?_eq_some_iff.1 hb).1
  unfold sortWorldK putRowK
  rw [heap_grow_old _ _ (by simpa using hg), flatK_list]
  simp [putRow, mapBlock, Sort.ahead, Array.getElem?_modify, hb, onCells]
theorem sorted_grown [Inhabited Msg] {w : World} {g n : Nat} {os : Array Obj} (d : Array Msg) : w.grownBy (sortWorldK msgCells 4 w g 0 n d os) (some g) := by
  refine ⟨rfl, rfl, rfl, by simp [sortWorldK, putRowK], fun k hk hne => ?_⟩
  unfold sortWorldK putRowK
  rw [heap_grow_old _ _ (by simpa using hk)]
  have : g ≠ k := fun e => hne (by rw [e])
  simp [putRow, mapBlock, Sort.ahead, Array.getElem?_modify, this]
theorem lt_cmp (x y : Msg) : ltOf cmpM x y = mlt x y := cmpM_lt x y
theorem cmp_swo : SWO (ltOf cmpM) where
  irrefl x := by rw [lt_cmp]; exact mlt_irrefl x
  trans x y z h1 h2 := by rw [lt_cmp] at *; exact mlt_trans x y z h1 h2
  ntrans x y z h1 h2 := by rw [lt_cmp] at *; exact mlt_ntrans x y z h1 h2
theorem cmp_total (x y : Msg) (h : ltOf cmpM x y = false) (h' : ltOf cmpM y x = false) : x = y := by
  rw [lt_cmp] at *
  exact mlt_total x y h h'
theorem merge_sortM (L : List Msg) : (L.mergeSort fun x y => !ltOf cmpM y x) = sortM L := by
  unfold sortM
  congr 1
  funext x y
  unfold mle
  rw [lt_cmp]
theorem aggMsg : ∀ w, (isAgg 93).run Tryz.prog w = .ok true w := Tryz.isAgg93
theorem sizeMsg : ∀ w, (Go.sizeOf 93).run Tryz.prog w = .ok 4 w := Tryz.sizeOf93
theorem cmp_enters : ∀ args w, (callFunc 200 args).run Tryz.prog w = .ok (.enter 200 args) w := enters_of Tryz.func200 (by kernel_rfl) rfl
theorem holds_msgs [Inhabited Msg] {w : World} {g n cap : Nat} {L : List Msg} (h : Mo w 93 (.slice (some ⟨g, 0, none⟩) n cap) L) : HoldsK msgCells 4 w g 0 L.toArray := by
  intro j hj
  rw [flatK_list] at hj ⊢
  rw [List.size_toArray] at hj
  have hc : w.cell? ⟨g, 0 + j, none⟩ = some (L.flatMap msgCells)[j] := by
    have := World.ownsRow.cells h (g := g) rfl j _ (List.getElem?_eq_getElem hj)
    by_cases e : j = 0
    · subst e; simpa [Addr.add] using this
    · simpa [Addr.add, e] using this
  refine ⟨?_, ?_⟩
  · rw [hc, getElem!_pos _ _ (by simpa using hj)]; simp
  · rcases h.2 with ⟨h1, _⟩ | ⟨g', cap', cur, h1, _, hg, _⟩
    · cases h1
    · cases h1
      simp [World.frozen?, hg]
/-- slices.SortFunc of a row of one's own, not empty. -/
theorem sortF_any {w : World} {g cap : Nat} {L : List Msg} (h : Mo w 93 (.slice (some ⟨g, 0, none⟩) L.length cap) L) (hs : L.length < 4611686018427387904) :
    Calls Tryz.prog 199 #[.slice (some ⟨g, 0, none⟩) L.length cap, .func (.func 200) #[] #[]] w fun e w' => e = .returned (.tuple #[]) ∧ Mo w' 93 (.slice (some ⟨g, 0, none⟩) L.length cap) (sortM L) ∧ w.grownBy w' (some g) := by
  haveI : Inhabited Msg := ⟨⟨0, 0, 0, 0⟩⟩
  have hcon := AnyQ.slices_SortFunc_total laySort 4 aggMsg sizeMsg msgCells (fun _ => rfl) (fun x => msgOne x) cmpM cmp_swo 200 #[] g 0 cap L.toArray w cmp_enters (fun _ _ _ _ x y => compare_msg x y _) (holds_msgs h) (h.lt g rfl) (by simpa using hs) cmp_total
  change Calls Tryz.prog 199 _ _ _ at hcon
  rw [List.size_toArray, merge_sortM] at hcon
  refine hcon.mono ?_
  rintro e w' ⟨rfl, n, os, rfl⟩
  refine ⟨rfl, ?_, sorted_grown _⟩
  rcases h.2 with ⟨h1, _⟩ | ⟨g', cap', cur, h1, h2, hg, hn, hc, hcs, ht⟩
  · cases h1
  · cases h1
    refine ⟨msg_len _, Or.inr ⟨g, cap, _, by rw [sortM_len], h2, sorted_heap _ hg, by rw [sortM_len]; exact hn, hc, by simp [putCells, hcs], ?_⟩⟩
    have := take_put cur ((sortM L).flatMap msgCells) (by rw [msg_len, sortM_len, hcs]; exact Nat.mul_le_mul_right _ hn)
    rwa [msg_len] at this
end Go.Proofs.YtnhijofnhflklaaGreat
end

section
/- New, held, sorted, For, Has, Drop of a box. -/
namespace Go.Proofs.YtnhijofnhflklaaGreat
open Go.RowKit Go.Sort
theorem new_box (w : World) : Calls Tryz.prog 73 #[] w fun e w' => e = .returned (.pointer (some ⟨w.heap.size, 0, none⟩)) ∧ w' = w.alloc (.cells #[.map none] 210) := by
  go_enter Tryz.func73, Tryz.ntmps73
  go_wp2
  go_ret
  exact ⟨rfl, rfl⟩
theorem BX.made (w : World) {S : Nat → Prop} (h : S w.heap.size) : BX (w.alloc (.cells #[.map none] 210)) S w.heap.size 0 [] := ⟨⟨_, heap_alloc_new w _, .none rfl⟩, h⟩
theorem held_box {w : World} {b : Nat} {mv : Value} (h : w.heap[b]? = some (.cells #[mv] 210 (0, 0))) : Calls Tryz.prog 164 #[.pointer (some ⟨b, 0, none⟩)] w fun e w' => e = .returned mv ∧ w' = w := by
  obtain ⟨p0, p1⟩ := bx_one h
  go_enter Tryz.func164, Tryz.ntmps164
  go_wp2
  go_ret
  exact ⟨rfl, rfl⟩
theorem cloneM_any {w : World} {P : Nat → Prop} {b off : Nat} (L : List Msg) (c : Nat) (h : MsAt w P (some ⟨b, off, none⟩) L) (hl : L.length * 32 ≤ 140737488355328) :
    Calls Tryz.prog 167 #[.slice (some ⟨b, off, none⟩) L.length c] w fun e w' => ∃ g cap, e = .returned (.slice (some ⟨g, 0, none⟩) L.length cap) ∧ w.heap.size ≤ g ∧ Mo w' 93 (.slice (some ⟨g, 0, none⟩) L.length cap) L ∧ Below w.heap.size w w' := by
  obtain ⟨i0, hi, hz0, hz1, hz2⟩ := info_parts infoMsg
  have hc : ∀ j u, (L.flatMap msgCells)[j]? = some u → w.cell? ⟨b, off + j, none⟩ = some u := by
    intro j u hj
    obtain ⟨hlt, _⟩ := List.getElem?_eq_some_iff.1 hj
    rw [msg_len] at hlt
    obtain ⟨b', off', e, _, hcs⟩ := h (by omega)
    cases e
    rw [flat_get L j hlt] at hj
    obtain ⟨a0, a1, a2, a3⟩ := hcs (j / 4) (by omega)
    have e : off + j = off + j / 4 * 4 + j % 4 := by omega
    rw [e]
    have hr : j % 4 < 4 := by omega
    generalize j % 4 = r at hj hr
    match r, hr, hj with
    | 0, _, hj => simp [msgCells] at hj; rw [Nat.add_zero, a0, hj]
    | 1, _, hj => simp [msgCells] at hj; rw [a1, hj]
    | 2, _, hj => simp [msgCells] at hj; rw [a2, hj]
    | 3, _, hj => simp [msgCells] at hj; rw [a3, hj]
  have hcon := AnyE.slices_Clone layClone i0 _ 4 32 hi hz0 hz1 hz2 rfl (by decide) sizeMsg b off L.length c (L.flatMap msgCells) w (msg_len L) (by unfold maxLen; omega) (by omega) hc (by
    intro u hu
    obtain ⟨m, _, hm⟩ := List.mem_flatMap.1 hu
    exact msgOne m u hm)
  change Calls Tryz.prog 167 _ _ _ at hcon
  refine hcon.mono ?_
  rintro e w' ⟨v', rfl, hown, hne, hb⟩
  rcases hown.2 with ⟨h1, _⟩ | ⟨g, cap, cur, rfl, h2, hr⟩
  · exact absurd h1 hne
  · exact ⟨g, cap, rfl, h2, ⟨hown.1, Or.inr ⟨g, cap, cur, rfl, Nat.zero_le _, hr⟩⟩, hb⟩
theorem cloneM_nil (w : World) : Calls Tryz.prog 167 #[.slice none 0 0] w fun e w' => e = .returned (.slice none 0 0) ∧ w' = w := AnyE.slices_Clone_nil layClone 0 0 w
theorem sortF_nil (w : World) : Calls Tryz.prog 199 #[.slice none 0 0, .func (.func 200) #[] #[]] w fun e w' => e = .returned (.tuple #[]) ∧ w' = w := AnyF.slices_SortFunc_none { laySort with } none 0 _ w
set_option maxRecDepth 100000 in
theorem sorted_nil (w : World) : Calls Tryz.prog 169 #[.slice none 0 0] w fun e w' => e = .returned (.slice none 0 0) ∧ w' = w := by
  go_enter Tryz.func169, Tryz.ntmps169
  go_wp2_with (first
    | (go_at_call 167; refine (cloneM_nil _).mono ?_; rintro e w1 ⟨rfl, rfl⟩)
    | (go_at_call 199; refine (sortF_nil _).mono ?_; rintro e w1 ⟨rfl, rfl⟩))
  go_ret
  exact ⟨rfl, rfl⟩
/-- A new list of one's own. -/
def MoNew (w w' : World) (v : Value) (L : List Msg) : Prop := Mo w' 93 v L ∧ (∀ k, v.ownBlock = some k → w.heap.size ≤ k) ∧ Below w.heap.size w w'
set_option maxRecDepth 100000 in
theorem sorted_some {w : World} {P : Nat → Prop} {b off : Nat} (L : List Msg) (c : Nat) (h : MsAt w P (some ⟨b, off, none⟩) L) (hl : L.length * 32 ≤ 140737488355328) :
    Calls Tryz.prog 169 #[.slice (some ⟨b, off, none⟩) L.length c] w fun e w' => ∃ v, e = .returned v ∧ MoNew w w' v (sortM L) := by
  have HH : Hid (MsAt w P (some ⟨b, off, none⟩) L) := h
  clear h
  go_enter Tryz.func169, Tryz.ntmps169
  go_wp2_with (first
    | (go_at_call 167; refine (cloneM_any L c HH.out hl).mono ?_; rintro e w1 ⟨g, cap, rfl, hg, ho, hb⟩; have HO : Hid _ := ho; have HB : Hid _ := hb; clear ho hb)
    | (go_at_call 199; refine (sortF_any HO.out (by omega)).mono ?_; rintro e w2 ⟨rfl, ho2, hg2⟩; have HO2 : Hid _ := ho2; have HG2 : Hid _ := hg2; clear ho2 hg2))
  go_ret
  refine ⟨_, rfl, HO2.out, fun k hk => ?_, ?_⟩
  · cases hk; exact hg
  · exact HB.out.trans ((Fr.grown (S := fun k => k = g) HG2.out (fun k hk => by cases hk; rfl)).below HB.out.size (fun k hk => by omega))
theorem sorted_any {w : World} {v : Value} {L : List Msg} (h : Mo w 93 v L) (hl : L.length * 32 ≤ 140737488355328) : Calls Tryz.prog 169 #[v] w fun e w' => ∃ v', e = .returned v' ∧ MoNew w w' v' (sortM L) := by
  have h' := h
  rcases h.2 with ⟨rfl, h0⟩ | ⟨g, cap, cur, rfl, _⟩
  · have e : L = [] := List.length_eq_zero_iff.1 h0
    subst e
    refine (sorted_nil w).mono ?_
    rintro e w' ⟨rfl, rfl⟩
    refine ⟨_, rfl, ?_, fun k hk => (by cases hk), Below.refl _ _⟩
    rw [show sortM [] = [] from List.mergeSort_nil]
    exact Mo.nil _ _
  · exact sorted_some L cap h'.at_ hl
theorem look_nil {id : Int} (hid : I64 id) (w : World) : Sem.run Tryz.prog (Instr.lookup 208 (.map none) (.int .i64 id) false) w = .ok (.slice none 0 0) w := by
  have := Maps.look_nil (P := Tryz.prog) (w := w) false law64 Tryz.underlying208 (zeroSl w) (keyOf_i64 hid)
  simpa using this
/-- What stands at a vertex: a row that owns its messages. -/
theorem MH.look {w : World} {S : Nat → Prop} {N : Nat} {B : List Msg} {mv : Value} (h : MH w S N B mv) {id : Int} (hid : I64 id) : ∃ v, Sem.run Tryz.prog (Instr.lookup 208 mv (.int .i64 id) false) w = .ok v w ∧ Mo w 93 v (toV B id) := by
  rcases h with ⟨rfl, h⟩ | ⟨M, D, rfl, h⟩
  · subst h; exact ⟨_, look_nil hid w, Mo.nil _ _⟩
  · exact ⟨_, h.look hid, h.rows id⟩
theorem toV_le (B : List Msg) (id : Int) : (toV B id).length ≤ B.length := List.length_filter_le _ _
set_option maxRecDepth 100000 in
theorem for_any {w : World} {S : Nat → Prop} {b N : Nat} {B : List Msg} (hX : BX w S b N B) {id : Int} (hid : I64 id) (hl : B.length * 32 ≤ 140737488355328) :
    Calls Tryz.prog 137 #[.pointer (some ⟨b, 0, none⟩), .int .i64 id] w fun e w' => ∃ v, e = .returned v ∧ MoNew w w' v (sortM (toV B id)) := by
  obtain ⟨⟨mv, h1, h2⟩, h3⟩ := hX
  obtain ⟨v, hlk, hv⟩ := h2.look hid
  have HV : Hid _ := hv
  have H1 : Hid _ := h1
  have hle := toV_le B id
  clear h1 h2 hv
  go_enter Tryz.func137, Tryz.ntmps137
  go_wp2_with (first
    | (go_at_call 164; refine (held_box H1.out).mono ?_; rintro e w1 ⟨rfl, rfl⟩)
    | (go_at_call 169; refine (sorted_any HV.out (by omega)).mono ?_; rintro e w2 ⟨v', rfl, hn⟩; have HN : Hid _ := hn; clear hn))
  go_ret
  exact ⟨_, rfl, HN.out⟩
set_option maxRecDepth 100000 in
theorem has_any {w : World} {S : Nat → Prop} {b N : Nat} {B : List Msg} (hX : BX w S b N B) {id : Int} (hid : I64 id) :
    Calls Tryz.prog 131 #[.pointer (some ⟨b, 0, none⟩), .int .i64 id] w fun e w' => e = .returned (.bool (decide (0 < (toV B id).length))) ∧ w' = w := by
  obtain ⟨⟨mv, h1, h2⟩, h3⟩ := hX
  obtain ⟨v, hlk, hv⟩ := h2.look hid
  obtain ⟨ao, c, rfl⟩ := hv.shape
  have H1 : Hid _ := h1
  clear h1 h2 hv
  go_enter Tryz.func131, Tryz.ntmps131
  go_wp2_with (go_at_call 164; refine (held_box H1.out).mono ?_; rintro e w1 ⟨rfl, rfl⟩)
  go_ret
  exact ⟨by simp, rfl⟩
end Go.Proofs.YtnhijofnhflklaaGreat
end

section
/- vertices, active, Active and byNumber of a part. -/
namespace Go.Proofs.YtnhijofnhflklaaGreat
open Go.RowKit
/-- Is a vertex active? -/
def act (s : St) (id : Int) : Bool := !s.H id || decide (0 < (toV s.B id).length)
def many (s : St) : Nat := (s.G.filter (fun v => act s v.id)).length
section
variable {w : World} {S : Nat → Prop} {p n : Nat} {s : St} {sv : Value} {M : List (Vx × Value)} {hm bx : Nat} {SB : Nat → Prop}
theorem PA.len (h : PA w S p n s sv M hm bx SB) : M.length = s.G.length := by rw [← h.gs, List.length_map]
/-- Its vertices as they are read. -/
theorem PA.at_ (h : PA w S p n s sv M hm bx SB) : ∃ ao cap, sv = .slice ao s.G.length cap ∧ VxAt w (fun _ => True) ao s.G := by
  obtain ⟨ao, cap, e, hv⟩ := h.gw.at_
  rw [h.len] at e
  rw [h.gs] at hv
  exact ⟨ao, cap, e, hv.mono (fun _ _ _ => trivial)⟩
theorem vertices_any (h : PA w S p n s sv M hm bx SB) : Calls Tryz.prog 81 #[.pointer (some ⟨p, 0, none⟩)] w fun r w' => r = .returned sv ∧ w' = w := by
  obtain ⟨c0, c1, c2⟩ := h.cells
  obtain ⟨ao, cap, rfl, _⟩ := h.at_
  clear h
  go_enter Tryz.func81, Tryz.ntmps81
  go_wp2
  go_ret
  exact ⟨rfl, rfl⟩
set_option maxRecDepth 100000 in
theorem active_any (h : PA w S p n s sv M hm bx SB) {id : Int} (hid : I64 id) : Calls Tryz.prog 82 #[.pointer (some ⟨p, 0, none⟩), .int .i64 id] w fun r w' => r = .returned (.bool (act s id)) ∧ w' = w := by
  obtain ⟨c0, c1, c2⟩ := h.cells
  have hlk := h.hal.look hid
  have HB : Hid _ := h.box
  have HA : Hid (act s id = (!s.H id || decide (0 < (toV s.B id).length))) := rfl
  clear h
  cases hH : s.H id
  · rw [hH] at hlk HA
    go_enter Tryz.func82, Tryz.ntmps82
    go_wp2
    go_ret
    exact ⟨by rw [HA.out]; rfl, rfl⟩
  · rw [hH] at hlk HA
    go_enter Tryz.func82, Tryz.ntmps82
    go_wp2_with (go_at_call 131; refine (has_any HB.out hid).mono ?_; rintro r w1 ⟨rfl, rfl⟩)
    go_ret
    exact ⟨by rw [HA.out]; simp, rfl⟩
theorem many_snoc (s : St) (j : Nat) (h : j < s.G.length) : ((s.G.take (j + 1)).filter (fun v => act s v.id)).length = ((s.G.take j).filter (fun v => act s v.id)).length + if act s s.G[j].id then 1 else 0 := by
  rw [List.take_succ_eq_append_getElem h, List.filter_append, List.length_append]
  congr 1
  by_cases e : act s s.G[j].id <;> simp [e]
set_option maxRecDepth 100000 in
set_option maxHeartbeats 1000000 in
theorem Active_any (h : PA w S p n s sv M hm bx SB) (hok : ∀ v ∈ s.G, v.ok) (hl : s.G.length ≤ 1073741824) : Calls Tryz.prog 36 #[.pointer (some ⟨p, 0, none⟩)] w fun r w' => r = .returned (.int .i64 (many s)) ∧ Below w.heap.size w w' := by
  obtain ⟨ao, cap, rfl, hv⟩ := h.at_
  have HV : Hid (VxAt w (fun _ => True) ao s.G) := hv
  have HP : Hid (PA w S p n s (.slice ao s.G.length cap) M hm bx SB) := h
  have HOk : Hid (∀ v ∈ s.G, v.ok) := hok
  obtain ⟨N, HN⟩ : ∃ N, Hid (N = s.G.length) := ⟨_, rfl⟩
  have hN : N ≤ 1073741824 := by rw [HN.out]; exact hl
  clear h hv hok hl
  have HVc : Hid _ := vertices_any HP.out
  rw [← HN.out] at HVc
  go_enter Tryz.func36, Tryz.ntmps36
  go_wp2_with (go_at_call 81; refine Calls.mono HVc.out ?_; rintro r w ⟨rfl, rfl⟩)
  go_loopw [3, 5, 9] (fun u _ i wr => ∃ (j c : Nat), j ≤ N ∧ c ≤ j ∧ Hid (c = ((s.G.take j).filter (fun v => act s v.id)).length) ∧ u = .int .i64 c ∧ i = .int .i64 j ∧ Below w.heap.size w wr) (fun _ _ i _ => N - (intOf i).toNat)
  case atStart => exact ⟨0, 0, Nat.zero_le _, Nat.le_refl _, rfl, rfl, rfl, Below.refl _ _⟩
  case round =>
    obtain ⟨j, c, hj, hcj, HC, rfl, rfl, hb⟩ := hrel
    by_cases hlt : j < N
    · have hjG : j < s.G.length := by rw [← HN.out]; exact hlt
      obtain ⟨b, off, rfl, _, hc⟩ := HV.out (by omega)
      obtain ⟨eo, ec, e0, e1, e2, -⟩ := hc j hjG
      have hbl := lt_cell e0
      have d0 := (hb.cell (p := ⟨b, off + j * 3, none⟩) hbl).trans e0
      have d1 := (hb.cell (p := ⟨b, off + j * 3 + 1, none⟩) hbl).trans e1
      have d2 := (hb.cell (p := ⟨b, off + j * 3 + 2, none⟩) hbl).trans e2
      have hid := (HOk.out s.G[j] (List.getElem_mem hjG)).id
      have HS : Hid _ := many_snoc s j hjG
      have HAc : Hid _ := fun W (hW : Below w.heap.size w W) => active_any (HP.out.new hW) hid
      generalize s.G[j] = y at d0 d1 d2 hid HS HAc
      have HB : Hid _ := hb
      clear e0 e1 e2 hc hb
      cases ha : act s y.id
      · rw [ha] at HS HAc
        go_wp2_with (go_at_call 82; refine (HAc.out _ (HB.out.alloc HB.out.size _)).mono ?_; rintro r w1 ⟨rfl, rfl⟩)
        go_roundw
        case rel => exact ⟨j + 1, c, by omega, by omega, by show _ = _; rw [HS.out, ← HC.out]; rfl, rfl, by go_num, HB.out.alloc HB.out.size _⟩
        case measure => simp [intOf]; omega
      · rw [ha] at HS HAc
        go_wp2_with (go_at_call 82; refine (HAc.out _ (HB.out.alloc HB.out.size _)).mono ?_; rintro r w1 ⟨rfl, rfl⟩)
        go_roundw
        case rel => exact ⟨j + 1, c + 1, by omega, by omega, by show _ = _; rw [HS.out, ← HC.out]; rfl, by go_num, by go_num, HB.out.alloc HB.out.size _⟩
        case measure => simp [intOf]; omega
    · obtain rfl : j = N := by omega
      have HE : Hid (c = many s) := by show _ = _; rw [HC.out, HN.out, List.take_length]; rfl
      clear HC
      go_wp2
      go_ret
      exact ⟨by rw [HE.out]; rfl, hb⟩
/-- Places in a row of one's own. -/
def KN (w : World) (base : Nat) (v : Value) (n : Nat) : Prop := w.ownsRow base 3 1 v n ((List.range n).map (fun q : Nat => Value.int .i64 (q : Int)))
theorem KN.at_ {w : World} {base : Nat} {ao : Option Addr} {n c : Nat} (h : KN w base (.slice ao n c) n) (hn : 0 < n) : ∃ g, ao = some ⟨g, 0, none⟩ ∧ base ≤ g ∧ PlAt w g n := by
  obtain ⟨g, e, hb, hc⟩ := k_at h hn
  exact ⟨g, e, hb, fun q hq => hc q _ (by simp [hq])⟩
theorem infoN : (Tryz.prog.info? 3).map (fun i => (i.zero, i.size, i.bytes)) = some (some (.int .i64 0), 1, 8) := by kernel_rfl
set_option maxRecDepth 100000 in
set_option maxHeartbeats 1000000 in
theorem byNumber_any (h : PA w S p n s sv M hm bx SB) (hr : Rise (ids s.G)) (hl : s.G.length ≤ 1073741824) : Calls Tryz.prog 83 #[.pointer (some ⟨p, 0, none⟩)] w fun r w' => ∃ v, r = .returned v ∧ KN w' w.heap.size v s.G.length ∧ Below w.heap.size w w' := by
  obtain ⟨i0, hi, hz0, hz1, hz2⟩ := info_parts infoN
  obtain ⟨ao, cap, rfl, hv⟩ := h.at_
  have HVc : Hid _ := vertices_any h
  have HV : Hid (VxAt w (fun _ => True) ao s.G) := hv
  have HR : Hid (Rise (ids s.G)) := hr
  obtain ⟨N, HN⟩ : ∃ N, Hid (N = s.G.length) := ⟨_, rfl⟩
  have hN : N ≤ 1073741824 := by rw [HN.out]; exact hl
  rw [← HN.out] at HVc ⊢
  clear h hv hr hl
  go_enter Tryz.func83, Tryz.ntmps83
  go_upto_region 2 with (go_at_call 81; refine Calls.mono HVc.out ?_; rintro r w ⟨rfl, rfl⟩)
  generalize hW : World.alloc w _ = W0
  have hB0 : Below w.heap.size w W0 := by rw [← hW]; exact one_newK _ _
  have hc0 : W0.cell? ⟨w.heap.size, 0, none⟩ = some (.slice ao N cap) := by rw [← hW]; simp
  have hs0 : W0.heap.size = w.heap.size + 1 := by rw [← hW]; simp
  have HB0 : Hid _ := hB0
  have HS0 : Hid _ := hs0
  have HV0 : Hid (VxAt W0 (fun _ => True) ao s.G) := VxAt.new HV.out hB0
  clear hW hB0 hs0 HV HVc
  go_wp2
  go_loopw [4, 5, 10] (fun u _ i wr => ∃ (j : Nat) (ro : Option Addr) (c : Nat), j ≤ N ∧ u = .slice ro j c ∧ i = .int .i64 j ∧ KN wr W0.heap.size (.slice ro j c) j ∧ (j = 0 → ro = none ∧ c = 0) ∧ Below W0.heap.size W0 wr) (fun _ _ i _ => N - (intOf i).toNat)
  case atStart => exact ⟨0, none, 0, Nat.zero_le _, rfl, rfl, World.ownsRow_nil _ _ _ _, fun _ => ⟨rfl, rfl⟩, Below.refl _ _⟩
  case round =>
    obtain ⟨j, ro, c, hj, rfl, rfl, hR, hnil, hb⟩ := hrel
    have HNil : Hid (j = 0 → ro = none ∧ c = 0) := hnil
    clear hnil
    have HR1 : Hid (KN wr W0.heap.size (.slice ro j c) j) := hR
    have HB : Hid _ := hb
    clear hR hb
    by_cases hlt : j < N
    · go_wp2_with (at_builtin; refine wpList_append_own_at _ rfl _ _ 171 rfl W0.heap.size 3 i0 (.int .i64 0) 1 8 Tryz.underlying171 hi hz0 hz1 hz2 rfl (by decide) (.slice ro j c) j ((List.range j).map (fun q : Nat => Value.int .i64 (q : Int))) rfl (k_new HR1.out (one_newK _ _)) ⟨wr.heap.size, 0, none⟩ 1 1 [.int .i64 j] rfl rfl (k_one1 (heap_alloc_new wr (.cells #[.int .i64 j] 3))) (k_oneI _) (by unfold maxLen; omega) (by omega) (by have := HB.out.size; simp; omega) ?_)
      intro v' w4 hown hgrow hne hat
      have hM4 : KN w4 W0.heap.size v' (j + 1) := by
        unfold KN
        rw [List.range_succ, List.map_append]
        exact hown
      have hB3 : Below W0.heap.size W0 (wr.alloc (.cells #[.int .i64 j] 3)) := HB.out.alloc HB.out.size _
      have hB4 : Below W0.heap.size W0 w4 := hB3.trans ((Fr.grown hgrow (S := fun k => W0.heap.size ≤ k) (fun k hk => (World.ownsRow.lt HR1.out k hk).1)).below hB3.size (fun k hk => hk))
      obtain ⟨ro', c', rfl⟩ := k_shape hM4
      have HM4 : Hid _ := hM4
      have HB4 : Hid _ := hB4
      clear hM4 hB3 hB4 hown hgrow hne hat
      go_wp2
      go_roundw
      case rel => exact ⟨j + 1, ro', c', by omega, rfl, by go_num, HM4.out, fun e => absurd e (by omega), HB4.out⟩
      case measure => simp [intOf]; omega
    · obtain rfl : j = N := by omega
      by_cases h0 : 0 < j
      · obtain ⟨g, rfl, hg, hP⟩ := KN.at_ HR1.out h0
        have HP : Hid (PlAt wr g j) := hP
        have HC : Hid (CmpAt wr (.pointer (some ⟨w.heap.size, 0, none⟩)) j (fun x y => cmpI ((ids s.G).getD x 0) ((ids s.G).getD y 0))) := by
          refine ⟨fun m x y hx hy => ?_, fun x y hxy hx => ?_⟩
          · have hx' : x < s.G.length := by rw [← HN.out]; exact hx
            have hy' : y < s.G.length := by rw [← HN.out]; exact hy
            have hcw : (wr.drewN m).cell? ⟨w.heap.size, 0, none⟩ = some (.slice ao s.G.length cap) := by
              rw [World.cell?_drewN, ← HN.out]
              exact (HB.out.cell (p := ⟨w.heap.size, 0, none⟩) (by have := HS0.out; show w.heap.size < _; omega)).trans hc0
            have := by1_any (w := wr.drewN m) (lb := w.heap.size) hcw (VxAt.new (VxAt.new HV0.out HB.out) (below_drewN _ m)) (by rw [← HN.out]; exact hN) x y hx' hy'
            have e1 : (ids s.G).getD x 0 = s.G[x].id := by simp [ids, hx']
            have e2 : (ids s.G).getD y 0 = s.G[y].id := by simp [ids, hy']
            rw [e1, e2]
            exact this
          · have hx' : x < (ids s.G).length := by rw [ids_len, ← HN.out]; exact hx
            have e1 : (ids s.G).getD x 0 = (ids s.G)[x] := by simp [hx']
            have e2 : (ids s.G).getD y 0 = (ids s.G)[y] := by simp [show y < (ids s.G).length by omega]
            rw [e1, e2]
            unfold cmpI
            by_cases e : y = x
            · subst e; rw [if_neg (by omega), if_neg (by omega)]; omega
            · have := Rise.lt HR.out x y hx' (by omega)
              rw [if_neg (by omega), if_pos this]; omega
        clear hP
        go_wp2_with (go_at_call 132; refine (sortStable_any HP.out HC.out hN).mono ?_; rintro r w5 ⟨rfl, q5, rfl⟩)
        go_ret
        exact ⟨_, rfl, k_low (k_new HR1.out (below_drewN _ q5)) HB0.out.size, HB0.out.trans ((HB.out.trans ((below_drewN _ q5).mono HB.out.size)).mono HB0.out.size)⟩
      · obtain rfl : j = 0 := by omega
        obtain ⟨rfl, rfl⟩ := HNil.out rfl
        go_wp2_with (go_at_call 132; refine sortStable_nil.mono ?_; rintro r w5 ⟨rfl, q5, rfl⟩)
        go_ret
        exact ⟨_, rfl, k_low (k_new HR1.out (below_drewN _ q5)) HB0.out.size, HB0.out.trans ((HB.out.trans ((below_drewN _ q5).mono HB.out.size)).mono HB0.out.size)⟩
end
end Go.Proofs.YtnhijofnhflklaaGreat
end
