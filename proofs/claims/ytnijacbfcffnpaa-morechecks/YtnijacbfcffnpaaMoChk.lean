/- Which programs are known, and which parameters they allow. -/
import Derived.Test.YtnijacbfcffnpaaKcCheck
namespace Go.Proofs.Ytnijacbfcffnpaa
open Go.RowKit
abbrev isCol (s : ByteArray) : Bool := s.toList == [99, 111, 108, 111, 114, 115]
abbrev isLab (s : ByteArray) : Bool := s.toList == [108, 97, 98, 101, 108, 115]
abbrev isMat (s : ByteArray) : Bool := s.toList == [109, 97, 116, 99, 104, 105, 110, 103]
abbrev isTri (s : ByteArray) : Bool := s.toList == [116, 114, 105, 97, 110, 103, 108, 101, 115]
/-- Is it one of the ten? -/
def allS (s : ByteArray) : Bool := kNm.any (fun y => y.toList == s.toList)
def coreN (L : List Int) : Int := if L.length = 1 ∧ 0 ≤ L.getD 0 0 ∧ L.getD 0 0 ≤ 256 then 0 else 71
/-- Which parameters a program allows, of all ten. -/
def mcheckN (s : ByteArray) (G : List Vx) (L : List Int) : Int := if isLab s then turnN L else if isKc s then coreN L else if isCol s || isMat s || isTri s then noneN L else checkN s G L
theorem beq_sym (a b : List UInt8) : (a == b) = (b == a) := by
  rw [Bool.eq_iff_iff, beq_iff_eq, beq_iff_eq]
  exact eq_comm
theorem all_ten (s : ByteArray) : allS s = (isBfs s || (isCc s || (isCol s || (isDeg s || (isKc s || (isLab s || (isMat s || (isPr s || (isSp s || (isTri s)))))))))) := by
  have e0 : (⟨#[98, 102, 115]⟩ : ByteArray).toList = [98, 102, 115] := by kernel_rfl
  have e1 : (⟨#[99, 99]⟩ : ByteArray).toList = [99, 99] := by kernel_rfl
  have e2 : (⟨#[99, 111, 108, 111, 114, 115]⟩ : ByteArray).toList = [99, 111, 108, 111, 114, 115] := by kernel_rfl
  have e3 : (⟨#[100, 101, 103, 114, 101, 101]⟩ : ByteArray).toList = [100, 101, 103, 114, 101, 101] := by kernel_rfl
  have e4 : (⟨#[107, 99, 111, 114, 101]⟩ : ByteArray).toList = [107, 99, 111, 114, 101] := by kernel_rfl
  have e5 : (⟨#[108, 97, 98, 101, 108, 115]⟩ : ByteArray).toList = [108, 97, 98, 101, 108, 115] := by kernel_rfl
  have e6 : (⟨#[109, 97, 116, 99, 104, 105, 110, 103]⟩ : ByteArray).toList = [109, 97, 116, 99, 104, 105, 110, 103] := by kernel_rfl
  have e7 : (⟨#[112, 97, 103, 101, 114, 97, 110, 107]⟩ : ByteArray).toList = [112, 97, 103, 101, 114, 97, 110, 107] := by kernel_rfl
  have e8 : (⟨#[115, 115, 115, 112]⟩ : ByteArray).toList = [115, 115, 115, 112] := by kernel_rfl
  have e9 : (⟨#[116, 114, 105, 97, 110, 103, 108, 101, 115]⟩ : ByteArray).toList = [116, 114, 105, 97, 110, 103, 108, 101, 115] := by kernel_rfl
  unfold allS kNm
  simp only [List.any_cons, List.any_nil, e0, e1, e2, e3, e4, e5, e6, e7, e8, e9, Bool.or_false]
  rw [beq_sym [98, 102, 115], beq_sym [99, 99], beq_sym [99, 111, 108, 111, 114, 115], beq_sym [100, 101, 103, 114, 101, 101], beq_sym [107, 99, 111, 114, 101], beq_sym [108, 97, 98, 101, 108, 115], beq_sym [109, 97, 116, 99, 104, 105, 110, 103], beq_sym [112, 97, 103, 101, 114, 97, 110, 107], beq_sym [115, 115, 115, 112], beq_sym [116, 114, 105, 97, 110, 103, 108, 101, 115]]
set_option maxRecDepth 100000 in
theorem core_any {ao : Option Addr} (L : List Int) (n cap : Nat) (w : World) (hn : n = L.length) (hL : IsAt w ao L) : Calls Try.prog 33 #[.slice ao n cap] w fun r w' => r = .returned (.int .i64 (coreN L)) ∧ w' = w := by
  by_cases h1 : n = 1
  · obtain ⟨b, off, rfl, hc⟩ := hL.one (by omega)
    have HT : Hid (coreN L = if 0 ≤ L.getD 0 0 ∧ L.getD 0 0 ≤ 256 then 0 else 71) := by
      show _ = _
      unfold coreN
      have : L.length = 1 := by omega
      simp [this]
    generalize L.getD 0 0 = x at hc HT
    subst h1
    rw [HT.out]
    clear hn hL HT
    go_enter Try.func33, Try.ntmps33
    by_cases g0 : x < 0
    · go_wp2
      all_goals first | (exfalso; omega) | (go_ret; exact ⟨by first | rfl | (rw [if_neg (by omega)]; rfl), rfl⟩)
    · by_cases g1 : 256 < x
      · go_wp2
        all_goals first | (exfalso; omega) | (go_ret; exact ⟨by first | rfl | (rw [if_neg (by omega)]; rfl), rfl⟩)
      · go_wp2
        all_goals first | (exfalso; omega) | (go_ret; exact ⟨by first | rfl | (rw [if_pos (by omega)]; rfl), rfl⟩)
  · have HT : Hid (coreN L = 71) := by
      show _ = _
      unfold coreN
      rw [if_neg (by omega)]
    rw [HT.out]
    have hb : ((n : Int) != 1) = true := by simp; omega
    clear hn hL HT
    go_enter Try.func33, Try.ntmps33
    go_wp2
    all_goals first | (exfalso; omega) | (go_ret; exact ⟨rfl, rfl⟩)
set_option maxRecDepth 100000 in
theorem kc_progs (w : World) : Calls Try.prog 30 #[] w fun r w' => r = .returned (.slice (some ⟨w.heap.size, 0, none⟩) 10 10) ∧ w' = w.alloc (.cells (kNm.map Value.string).toArray 9) := by
  go_enter Try.func30, Try.ntmps30
  go_wp2
  go_ret
  exact ⟨rfl, rfl⟩
set_option maxRecDepth 100000 in
set_option maxHeartbeats 1000000 in
theorem index_any (s : ByteArray) (w : World) (b : Nat) (hc : ∀ j (hj : j < kNm.length), w.cell? ⟨b, j, none⟩ = some (.string kNm[j])) : Calls Try.prog 56 #[.slice (some ⟨b, 0, none⟩) 10 10, .string s] w fun r w' => ∃ k : Int, r = .returned (.int .i64 k) ∧ decide (0 ≤ k) = allS s ∧ w' = w := by
  have HC : Hid _ := hc
  clear hc
  go_enter Try.func56, Try.ntmps56
  go_wp2
  go_loopw [5, 8] (fun _ i wr => ∃ j : Nat, j ≤ 10 ∧ i = .int .i64 j ∧ Hid (∀ y ∈ kNm.take j, (y.toList == s.toList) = false) ∧ wr = w) (fun _ i _ => 10 - (intOf i).toNat)
  case atStart => exact ⟨0, Nat.zero_le _, rfl, (fun y hy => (by simp at hy)), rfl⟩
  case round =>
    obtain ⟨j, hj, rfl, HF, rfl⟩ := hrel
    by_cases hlt : j < 10
    · have c1 := HC.out j hlt
      have HN : Hid (∀ y ∈ kNm.take (j + 1), y ∈ kNm.take j ∨ y = kNm[j]'hlt) := fun y hy => by
        rw [List.take_succ_eq_append_getElem hlt] at hy
        rcases List.mem_append.1 hy with hy | hy
        · exact Or.inl hy
        · exact Or.inr (by simpa using hy)
      have HMem : Hid (kNm[j]'hlt ∈ kNm) := List.getElem_mem hlt
      generalize kNm[j]'hlt = y at c1 HN HMem
      have hsy := beq_sym s.toList y.toList
      cases hy : (y.toList == s.toList)
      · rw [hy] at hsy
        have HY : Hid _ := hy
        clear hy
        go_wp2
        go_roundw
        case rel =>
          refine ⟨j + 1, by omega, by go_num, fun z hz => ?_, by first | rfl | trivial⟩
          rcases HN.out z hz with h | rfl
          · exact HF.out z h
          · exact HY.out
        case measure => simp [intOf]; omega
      · rw [hy] at hsy
        have HA : Hid (allS s = true) := List.any_eq_true.2 ⟨y, HMem.out, hy⟩
        clear hy
        go_wp2
        go_ret
        exact ⟨j, rfl, by rw [HA.out]; simp, rfl⟩
    · obtain rfl : j = 10 := by omega
      have HA : Hid (allS s = false) := by
        show _ = _
        unfold allS
        rw [List.any_eq_false]
        intro y hy
        rw [HF.out y (by rw [List.take_of_length_le (by decide)]; exact hy)]
        simp
      go_wp2
      go_ret
      exact ⟨-1, rfl, by rw [HA.out]; rfl, rfl⟩
set_option maxRecDepth 100000 in
theorem contains_any (s : ByteArray) (w : World) (b : Nat) (hc : ∀ j (hj : j < kNm.length), w.cell? ⟨b, j, none⟩ = some (.string kNm[j])) : Calls Try.prog 29 #[.slice (some ⟨b, 0, none⟩) 10 10, .string s] w fun r w' => r = .returned (.bool (allS s)) ∧ w' = w := by
  have HC : Hid _ := hc
  clear hc
  go_enter Try.func29, Try.ntmps29
  go_wp2_with (go_at_call 56; refine (index_any s _ b HC.out).mono ?_; rintro r w1 ⟨k, rfl, hk, rfl⟩; have HK : Hid _ := hk; clear hk)
  go_ret
  exact ⟨by rw [HK.out]; rfl, rfl⟩
set_option maxRecDepth 100000 in
theorem mknown_any (s : ByteArray) (w : World) : Calls Try.prog 12 #[.string s] w fun r w' => r = .returned (.bool (allS s)) ∧ Below w.heap.size w w' := by
  go_enter Try.func12, Try.ntmps12
  go_wp2_with (first
    | (go_at_call 30; refine (kc_progs _).mono ?_; rintro r w1 ⟨rfl, hw1⟩; obtain ⟨hc1, hb1⟩ := kc_row kNm hw1.symm; have HC1 : Hid _ := hc1; have HB1 : Hid _ := hb1; clear hw1 hc1 hb1)
    | (go_at_call 29; refine (contains_any s _ _ HC1.out).mono ?_; rintro r w2 ⟨rfl, rfl⟩))
  go_ret
  exact ⟨rfl, HB1.out⟩
set_option maxRecDepth 100000 in
set_option maxHeartbeats 1000000 in
theorem rknown_all (s : ByteArray) (w : World) : Calls Try.prog 13 #[.string s] w fun r w' => r = .returned (.bool (allS s)) ∧ Below w.heap.size w w' := by
  cases hs : allS s
  · have HS : Hid (∀ y ∈ kNm, (y.toList == s.toList) = false) := fun y hy => by
      unfold allS at hs
      rw [List.any_eq_false] at hs
      simpa using hs y hy
    clear hs
    go_enter Try.func13, Try.ntmps13
    go_wp2_with (go_at_call 31; refine (kc_names _).mono ?_; rintro r w1 ⟨rfl, hw1⟩; obtain ⟨hc1, hb1⟩ := kc_row kNm hw1.symm; have HC1 : Hid _ := hc1; have HB1 : Hid _ := hb1; clear hw1 hc1 hb1)
    go_loopw [2, 4] (fun _ i wr => ∃ j : Nat, j ≤ 10 ∧ i = .int .i64 j ∧ wr = w1) (fun _ i _ => 10 - (intOf i).toNat)
    case atStart => exact ⟨0, Nat.zero_le _, rfl, rfl⟩
    case round =>
      obtain ⟨j, hj, rfl, rfl⟩ := hrel
      by_cases hlt : j < 10
      · have c1 := HC1.out j hlt
        have hy := HS.out _ (List.getElem_mem hlt)
        generalize kNm[j]'hlt = y at c1 hy
        go_wp2
        go_roundw
        case rel => exact ⟨j + 1, by omega, by go_num, by first | rfl | trivial⟩
        case measure => simp [intOf]; omega
      · obtain rfl : j = 10 := by omega
        go_wp2
        go_ret
        exact ⟨rfl, HB1.out⟩
  · refine rknown_any s w ?_
    unfold allS at hs
    rw [List.any_eq_true] at hs
    exact hs
section
variable {w : World} {P : Nat → Prop} {ao po : Option Addr} {s : ByteArray} {G : List Vx} {L : List Int} {n cap pn pc : Nat}
set_option maxRecDepth 100000 in
set_option maxHeartbeats 2000000 in
theorem rcheck_lab (h4 : (s.toList == [108, 97, 98, 101, 108, 115]) = true) (hp : pn = L.length) (hL : IsAt w po L) :
    Calls Try.prog 15 #[.string s, .slice ao n cap, .slice po pn pc] w fun r w' => r = .returned (.int .i64 (turnN L)) ∧ Below w.heap.size w w' := by
  have e := eq_of_beq h4
  have h1 : (s.toList == [98, 102, 115]) = false := by rw [e]; rfl
  have h2 : (s.toList == [115, 115, 115, 112]) = false := by rw [e]; rfl
  have h3 : (s.toList == [112, 97, 103, 101, 114, 97, 110, 107]) = false := by rw [e]; rfl
  by_cases hp1 : pn = 1
  · obtain ⟨b, off, rfl, hc⟩ := hL.one (by omega)
    have HT : Hid (turnN L = if 0 ≤ L.getD 0 0 ∧ L.getD 0 0 ≤ 100 then 0 else 71) := by
      show _ = _
      unfold turnN
      have : L.length = 1 := by omega
      simp [this]
    generalize L.getD 0 0 = x at hc HT
    subst hp1
    rw [HT.out]
    clear hp hL HT e
    go_enter Try.func15, Try.ntmps15
    by_cases g0 : x < 0
    · go_wp2
      all_goals first | (exfalso; omega) | (go_ret; exact ⟨by first | rfl | (rw [if_neg (by omega)]; rfl), Below.refl _ _⟩)
    · by_cases g1 : 100 < x
      · go_wp2
        all_goals first | (exfalso; omega) | (go_ret; exact ⟨by first | rfl | (rw [if_neg (by omega)]; rfl), Below.refl _ _⟩)
      · go_wp2
        all_goals first | (exfalso; omega) | (go_ret; exact ⟨by first | rfl | (rw [if_pos (by omega)]; rfl), Below.refl _ _⟩)
  · have HT : Hid (turnN L = 71) := by
      show _ = _
      unfold turnN
      rw [if_neg (by omega)]
    rw [HT.out]
    have hb : ((pn : Int) != 1) = true := by simp; omega
    clear hp hL HT e
    go_enter Try.func15, Try.ntmps15
    go_wp2
    all_goals first | (exfalso; omega) | (go_ret; exact ⟨rfl, Below.refl _ _⟩)
set_option maxRecDepth 100000 in
set_option maxHeartbeats 2000000 in
theorem rcheck_kc (h4 : (s.toList == [107, 99, 111, 114, 101]) = true) (hp : pn = L.length) (hL : IsAt w po L) :
    Calls Try.prog 15 #[.string s, .slice ao n cap, .slice po pn pc] w fun r w' => r = .returned (.int .i64 (coreN L)) ∧ Below w.heap.size w w' := by
  have e := eq_of_beq h4
  have h1 : (s.toList == [98, 102, 115]) = false := by rw [e]; rfl
  have h2 : (s.toList == [115, 115, 115, 112]) = false := by rw [e]; rfl
  have h5 : (s.toList == [108, 97, 98, 101, 108, 115]) = false := by rw [e]; rfl
  have h3 : (s.toList == [112, 97, 103, 101, 114, 97, 110, 107]) = false := by rw [e]; rfl
  by_cases hp1 : pn = 1
  · obtain ⟨b, off, rfl, hc⟩ := hL.one (by omega)
    have HT : Hid (coreN L = if 0 ≤ L.getD 0 0 ∧ L.getD 0 0 ≤ 256 then 0 else 71) := by
      show _ = _
      unfold coreN
      have : L.length = 1 := by omega
      simp [this]
    generalize L.getD 0 0 = x at hc HT
    subst hp1
    rw [HT.out]
    clear hp hL HT e
    go_enter Try.func15, Try.ntmps15
    by_cases g0 : x < 0
    · go_wp2
      all_goals first | (exfalso; omega) | (go_ret; exact ⟨by first | rfl | (rw [if_neg (by omega)]; rfl), Below.refl _ _⟩)
    · by_cases g1 : 256 < x
      · go_wp2
        all_goals first | (exfalso; omega) | (go_ret; exact ⟨by first | rfl | (rw [if_neg (by omega)]; rfl), Below.refl _ _⟩)
      · go_wp2
        all_goals first | (exfalso; omega) | (go_ret; exact ⟨by first | rfl | (rw [if_pos (by omega)]; rfl), Below.refl _ _⟩)
  · have HT : Hid (coreN L = 71) := by
      show _ = _
      unfold coreN
      rw [if_neg (by omega)]
    rw [HT.out]
    have hb : ((pn : Int) != 1) = true := by simp; omega
    clear hp hL HT e
    go_enter Try.func15, Try.ntmps15
    go_wp2
    all_goals first | (exfalso; omega) | (go_ret; exact ⟨rfl, Below.refl _ _⟩)
set_option maxRecDepth 100000 in
set_option maxHeartbeats 1000000 in
theorem rcheck_un (h1 : (s.toList == [98, 102, 115]) = false) (h2 : (s.toList == [115, 115, 115, 112]) = false) (h4 : (s.toList == [112, 97, 103, 101, 114, 97, 110, 107]) = false) (h5 : (s.toList == [108, 97, 98, 101, 108, 115]) = false) (h6 : (s.toList == [107, 99, 111, 114, 101]) = false) (hk : allS s = false) :
    Calls Try.prog 15 #[.string s, .slice ao n cap, .slice po pn pc] w fun r w' => r = .returned (.int .i64 70) ∧ Below w.heap.size w w' := by
  have HK : Hid _ := hk
  clear hk
  go_enter Try.func15, Try.ntmps15
  go_wp2_with (go_at_call 13; refine (rknown_all s _).mono ?_; rintro r w1 ⟨rfl, hb1⟩; rw [HK.out]; have HB1 : Hid _ := hb1; clear hb1)
  go_ret
  exact ⟨rfl, HB1.out⟩
/-- The document's Check, of any name. -/
theorem rcheck_all (hn : n = G.length) (hp : pn = L.length) (hG : VxAt w P ao G) (hok : ∀ v ∈ G, v.ok) (hL : IsAt w po L) (hl : G.length ≤ 256) :
    Calls Try.prog 15 #[.string s, .slice ao n cap, .slice po pn pc] w fun r w' => r = .returned (.int .i64 (mcheckN s G L)) ∧ Below w.heap.size w w' := by
  unfold mcheckN
  cases h5 : isLab s
  · cases h6 : isKc s
    · cases hx : (isCol s || isMat s || isTri s)
      · simp only [Bool.false_eq_true, if_false]
        cases ho : ownS s
        · rw [check_none ho]
          have hx2 := hx
          have ho2 := ho
          unfold ownS at ho2
          simp only [Bool.or_eq_false_iff] at ho2 hx2
          obtain ⟨⟨⟨⟨g1, g2⟩, g3⟩, g4⟩, g8⟩ := ho2
          obtain ⟨⟨g5, g6⟩, g7⟩ := hx2
          exact rcheck_un g1 g8 g4 h5 h6 (by rw [all_ten, g1, g2, g3, g4, g5, g6, g7, g8, h5, h6]; rfl)
        · exact rcheck_any ho hn hp hG hok hL hl
      · simp only [Bool.false_eq_true, if_false, if_true]
        rcases Bool.or_eq_true_iff.1 hx with hx | hc
        · rcases Bool.or_eq_true_iff.1 hx with hc | hc
          · have e : s.toList = [99, 111, 108, 111, 114, 115] := eq_of_beq hc
            exact rcheck_none (by rw [e]; rfl) (by rw [e]; rfl) (by rw [e]; rfl) h5 h6 ⟨⟨#[99, 111, 108, 111, 114, 115]⟩, by simp [kNm], by rw [e]; kernel_rfl⟩ hp
          · have e : s.toList = [109, 97, 116, 99, 104, 105, 110, 103] := eq_of_beq hc
            exact rcheck_none (by rw [e]; rfl) (by rw [e]; rfl) (by rw [e]; rfl) h5 h6 ⟨⟨#[109, 97, 116, 99, 104, 105, 110, 103]⟩, by simp [kNm], by rw [e]; kernel_rfl⟩ hp
        · have e : s.toList = [116, 114, 105, 97, 110, 103, 108, 101, 115] := eq_of_beq hc
          exact rcheck_none (by rw [e]; rfl) (by rw [e]; rfl) (by rw [e]; rfl) h5 h6 ⟨⟨#[116, 114, 105, 97, 110, 103, 108, 101, 115]⟩, by simp [kNm], by rw [e]; kernel_rfl⟩ hp
    · simp only [Bool.false_eq_true, if_false, if_true]
      exact rcheck_kc h6 hp hL
  · simp only [if_true]
    exact rcheck_lab h5 hp hL
set_option linter.unusedSimpArgs false in
set_option maxRecDepth 100000 in
set_option maxHeartbeats 1000000 in
/-- more.Check, of any name. -/
theorem mocheck_any (hn : n = G.length) (hp : pn = L.length) (hG : VxAt w P ao G) (hok : ∀ v ∈ G, v.ok) (hL : IsAt w po L) (hl : G.length ≤ 256) (hr : Rise (ids G)) :
    Calls Try.prog 14 #[.string s, .agg #[.slice ao n cap], .slice po pn pc] w fun r w' => r = .returned (.int .i64 (mcheckN s G L)) ∧ Below w.heap.size w w' := by
  obtain ⟨W0, hW0⟩ : ∃ W0, w.alloc (.cells #[.slice ao n cap] 24) = W0 := ⟨_, rfl⟩
  have hB0 : Below w.heap.size w W0 := by rw [← hW0]; exact (Below.refl _ _).alloc (Nat.le_refl _) _
  have hcg : W0.cell? ⟨w.heap.size, 0, none⟩ = some (.slice ao n cap) := by
    have hh : W0.heap[w.heap.size]? = some (.cells #[.slice ao n cap] 24 (0, 0)) := by rw [← hW0]; exact heap_alloc_new _ _
    simp [World.cell?, hh]
  have HK : Hid (Calls Try.prog 35 #[.string s, .agg #[.slice ao n cap], .slice po pn pc] W0 fun r w' => r = .returned (.int .i64 (checkN s G L)) ∧ Below W0.heap.size W0 w') := kcheck_any hn hp (kc_new hG hB0) hok (hL.new hB0) hl hr
  have HT : Hid (Calls Try.prog 32 #[.slice po pn pc] W0 fun r w' => r = .returned (.int .i64 (turnN L)) ∧ w' = W0) := turns_any L pn pc W0 hp (hL.new hB0)
  have HC : Hid (Calls Try.prog 33 #[.slice po pn pc] W0 fun r w' => r = .returned (.int .i64 (coreN L)) ∧ w' = W0) := core_any L pn pc W0 hp (hL.new hB0)
  have HO : Hid (Calls Try.prog 34 #[.slice po pn pc] W0 fun r w' => r = .returned (.int .i64 (noneN L)) ∧ w' = W0) := none_any L pn pc W0 hp
  have HB0 : Hid _ := hB0
  clear hn hp hG hok hL hl hr hB0
  unfold mcheckN isLab isKc isCol isMat isTri
  generalize checkN s G L = R0 at HK
  generalize turnN L = R1 at HT
  generalize coreN L = R2 at HC
  generalize noneN L = R3 at HO
  cases h1 : (s.toList == [108, 97, 98, 101, 108, 115])
  · cases h2 : (s.toList == [107, 99, 111, 114, 101])
    · cases h3 : (s.toList == [99, 111, 108, 111, 114, 115])
      · cases h4 : (s.toList == [109, 97, 116, 99, 104, 105, 110, 103])
        · cases h5 : (s.toList == [116, 114, 105, 97, 110, 103, 108, 101, 115])
          · simp only [Bool.false_eq_true, if_false, Bool.or_self]
            go_enter Try.func14, Try.ntmps14
            go_wp2_with (go_at_call 35; refine HK.out.mono ?_; rintro r w1 ⟨rfl, hb1⟩; have HB1 : Hid _ := hb1; clear hb1)
            go_ret
            exact ⟨rfl, HB0.out.trans (HB1.out.mono HB0.out.size)⟩
          · simp only [Bool.false_eq_true, if_false, if_true, Bool.or_true, Bool.or_false, Bool.true_or, Bool.false_or]
            go_enter Try.func14, Try.ntmps14
            go_wp2_with (go_at_call 34; refine HO.out.mono ?_; rintro r w1 ⟨rfl, rfl⟩)
            go_ret
            exact ⟨rfl, HB0.out⟩
        · simp only [Bool.false_eq_true, if_false, if_true, Bool.or_true, Bool.or_false, Bool.true_or, Bool.false_or]
          go_enter Try.func14, Try.ntmps14
          go_wp2_with (go_at_call 34; refine HO.out.mono ?_; rintro r w1 ⟨rfl, rfl⟩)
          go_ret
          exact ⟨rfl, HB0.out⟩
      · simp only [Bool.false_eq_true, if_false, if_true, Bool.or_true, Bool.or_false, Bool.true_or, Bool.false_or]
        go_enter Try.func14, Try.ntmps14
        go_wp2_with (go_at_call 34; refine HO.out.mono ?_; rintro r w1 ⟨rfl, rfl⟩)
        go_ret
        exact ⟨rfl, HB0.out⟩
    · simp only [Bool.false_eq_true, if_false, if_true]
      go_enter Try.func14, Try.ntmps14
      go_wp2_with (go_at_call 33; refine HC.out.mono ?_; rintro r w1 ⟨rfl, rfl⟩)
      go_ret
      exact ⟨rfl, HB0.out⟩
  · simp only [if_true]
    go_enter Try.func14, Try.ntmps14
    go_wp2_with (go_at_call 32; refine HT.out.mono ?_; rintro r w1 ⟨rfl, rfl⟩)
    go_ret
    exact ⟨rfl, HB0.out⟩
end
end Go.Proofs.Ytnijacbfcffnpaa
