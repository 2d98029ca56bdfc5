import Derived.Test.YtidghoipmggklaaGreatKcRefM
import Derived.Test.YtidghoipmggklaaGreatNumM
import Derived.Test.YtidghoipmggklaaGreatGrDataM
import Derived.Test.YtidghoipmggklaaGreatProg
import Derived.WalkKit
import Derived.OwnWalk
import Derived.Maps.AppendAt
import Derived.Deep.Cut
import Derived.Deep.DeepCutAuto
import Derived.Below
import Derived.Laws.Tables
import Derived.Laws.OwnMore
import Derived.Test.YtidghoipmggklaaGreatGrWalk2M
import Derived.Test.YtidghoipmggklaaGreatRdRoundM
import Derived.Test.YtidghoipmggklaaGreatGrRefM
import Derived.Test.YtidghoipmggklaaGreatReader2M
import Derived.Test.YtidghoipmggklaaGreatRefReaderM
import Derived.Test.YtidghoipmggklaaGreatWriterWM
section
/- kern.Check, and the document's at the programs of this layer. -/
namespace Go.Proofs.YtidghoipmggklaaGreat
open Go.RowKit
section
variable {w : World} {P : Nat → Prop} {ao po : Option Addr} {s : ByteArray} {G : List Vx} {L : List Int} {n cap pn pc : Nat}
theorem below0_n (hn : n = G.length) (h : VxAt w P ao G) (hok : ∀ v ∈ G, v.ok) (hl : G.length ≤ 256) :
    Calls Tryz.prog 197 #[.agg #[.slice ao n cap]] w fun r w' => r = .returned (.bool (negE G)) ∧ Below w.heap.size w w' := by
  subst hn
  exact below0_any cap h hok hl
set_option maxRecDepth 100000 in
set_option maxHeartbeats 2000000 in
theorem kcheck_any (hn : n = G.length) (hp : pn = L.length) (hG : VxAt w P ao G) (hok : ∀ v ∈ G, v.ok) (hL : IsAt w po L) (hl : G.length ≤ 256) (hr : Rise (ids G)) :
    Calls Tryz.prog 157 #[.string s, .agg #[.slice ao n cap], .slice po pn pc] w fun r w' => r = .returned (.int .i64 (checkN s G L)) ∧ Below w.heap.size w w' := by
  obtain ⟨W0, hW0⟩ : ∃ W0, w.alloc (.cells #[.slice ao n cap] 24) = W0 := ⟨_, rfl⟩
  have hB0 : Below w.heap.size w W0 := by rw [← hW0]; exact (Below.refl _ _).alloc (Nat.le_refl _) _
  have hcg : W0.cell? ⟨w.heap.size, 0, none⟩ = some (.slice ao n cap) := by
    have hh : W0.heap[w.heap.size]? = some (.cells #[.slice ao n cap] 24 (0, 0)) := by rw [← hW0]; exact heap_alloc_new _ _
    simp [World.cell?, hh]
  have HS : Hid (∀ W, Below W0.heap.size W0 W → Calls Tryz.prog 196 #[.agg #[.slice ao n cap], .slice po pn pc] W fun r w' => r = .returned (.int .i64 (srcN G L)) ∧ Below W.heap.size W w') := fun W hb => source_any G L n cap pn pc hn hp (kc_new (kc_new hG hB0) hb) ((hL.new hB0).new hb) hl hr
  have HN : Hid (Calls Tryz.prog 197 #[.agg #[.slice ao n cap]] W0 fun r w' => r = .returned (.bool (negE G)) ∧ Below W0.heap.size W0 w') := below0_n hn (kc_new hG hB0) hok hl
  have HT : Hid (Calls Tryz.prog 154 #[.slice po pn pc] W0 fun r w' => r = .returned (.int .i64 (turnN L)) ∧ w' = W0) := turns_any L pn pc W0 hp (hL.new hB0)
  have HO : Hid (Calls Tryz.prog 156 #[.slice po pn pc] W0 fun r w' => r = .returned (.int .i64 (noneN L)) ∧ w' = W0) := none_any L pn pc W0 hp
  have HB0 : Hid _ := hB0
  clear hn hp hG hok hL hl hr hB0
  unfold checkN isBfs isSp isPr isCc isDeg
  cases h1 : (s.toList == [98, 102, 115])
  · cases h5 : (s.toList == [115, 115, 115, 112])
    · cases h4 : (s.toList == [112, 97, 103, 101, 114, 97, 110, 107])
      · cases h2 : (s.toList == [99, 99])
        · cases h3 : (s.toList == [100, 101, 103, 114, 101, 101])
          · go_enter Tryz.func157, Tryz.ntmps157
            go_wp2
            go_ret
            exact ⟨rfl, HB0.out⟩
          · simp only [Bool.false_eq_true, if_false, Bool.false_or, if_true]
            generalize noneN L = R at HO
            go_enter Tryz.func157, Tryz.ntmps157
            go_wp2_with (go_at_call 156; refine HO.out.mono ?_; rintro r w1 ⟨rfl, rfl⟩)
            go_ret
            exact ⟨rfl, HB0.out⟩
        · simp only [Bool.false_eq_true, if_false, Bool.true_or, if_true]
          generalize noneN L = R at HO
          go_enter Tryz.func157, Tryz.ntmps157
          go_wp2_with (go_at_call 156; refine HO.out.mono ?_; rintro r w1 ⟨rfl, rfl⟩)
          go_ret
          exact ⟨rfl, HB0.out⟩
      · simp only [Bool.false_eq_true, if_false, if_true]
        generalize turnN L = R at HT
        go_enter Tryz.func157, Tryz.ntmps157
        go_wp2_with (go_at_call 154; refine HT.out.mono ?_; rintro r w1 ⟨rfl, rfl⟩)
        go_ret
        exact ⟨rfl, HB0.out⟩
    · simp only [Bool.false_eq_true, if_false, if_true]
      generalize srcN G L = R at HS
      cases hng : negE G
      · rw [hng] at HN
        simp only [Bool.false_eq_true, if_false]
        go_enter Tryz.func157, Tryz.ntmps157
        go_wp2_with (first
          | (go_at_call 197; refine HN.out.mono ?_; rintro r w1 ⟨rfl, hb1⟩; have c1 := (hb1.cell (p := ⟨w.heap.size, 0, none⟩) (lt_cell hcg)).trans hcg; have HB1 : Hid _ := hb1; clear hb1)
          | (go_at_call 196; refine (HS.out _ HB1.out).mono ?_; rintro r w2 ⟨rfl, hb2⟩; have HB2 : Hid _ := HB1.out.trans (hb2.mono HB1.out.size); clear hb2))
        go_ret
        exact ⟨rfl, HB0.out.trans (HB2.out.mono HB0.out.size)⟩
      · rw [hng] at HN
        simp only [if_true]
        go_enter Tryz.func157, Tryz.ntmps157
        go_wp2_with (go_at_call 197; refine HN.out.mono ?_; rintro r w1 ⟨rfl, hb1⟩; have HB1 : Hid _ := hb1; clear hb1)
        go_ret
        exact ⟨rfl, HB0.out.trans (HB1.out.mono HB0.out.size)⟩
  · simp only [if_true]
    generalize srcN G L = R at HS
    go_enter Tryz.func157, Tryz.ntmps157
    go_wp2_with (go_at_call 196; refine (HS.out _ (Below.refl _ _)).mono ?_; rintro r w2 ⟨rfl, hb2⟩; have HB2 : Hid _ := hb2; clear hb2)
    go_ret
    exact ⟨rfl, HB0.out.trans (HB2.out.mono HB0.out.size)⟩
/-- The document's Check is the same there. -/
theorem rcheck_any (hs : ownS s = true) (hn : n = G.length) (hp : pn = L.length) (hG : VxAt w P ao G) (hok : ∀ v ∈ G, v.ok) (hL : IsAt w po L) (hl : G.length ≤ 256) :
    Calls Tryz.prog 45 #[.string s, .slice ao n cap, .slice po pn pc] w fun r w' => r = .returned (.int .i64 (checkN s G L)) ∧ Below w.heap.size w w' := by
  unfold checkN
  cases h1 : isBfs s
  · cases h5 : isSp s
    · cases h4 : isPr s
      · have hcd : (isCc s || isDeg s) = true := by
          unfold ownS at hs
          rw [h1, h5, h4] at hs
          simpa using hs
        simp only [Bool.false_eq_true, if_false, hcd, if_true]
        rcases Bool.or_eq_true_iff.1 hcd with hc | hc
        · have e : s.toList = [99, 99] := eq_of_beq hc
          exact rcheck_none h1 h5 h4 (by rw [e]; rfl) (by rw [e]; rfl) ⟨⟨#[99, 99]⟩, by simp [kNm], by rw [e]; kernel_rfl⟩ hp
        · have e : s.toList = [100, 101, 103, 114, 101, 101] := eq_of_beq hc
          exact rcheck_none h1 h5 h4 (by rw [e]; rfl) (by rw [e]; rfl) ⟨⟨#[100, 101, 103, 114, 101, 101]⟩, by simp [kNm], by rw [e]; kernel_rfl⟩ hp
      · simp only [Bool.false_eq_true, if_false, if_true]
        exact rcheck_pr h4 hp hL
    · simp only [Bool.false_eq_true, if_false, if_true]
      exact rcheck_sp h5 hn hp hG hok hL hl
  · simp only [if_true]
    exact rcheck_bfs h1 hn hp hG hL hl
theorem check_none (hs : ownS s = false) : checkN s G L = 70 := by
  unfold ownS at hs
  simp only [Bool.or_eq_false_iff] at hs
  obtain ⟨⟨⟨⟨h1, h2⟩, h3⟩, h4⟩, h5⟩ := hs
  unfold checkN
  rw [h1, h5, h4, h2, h3]
  rfl
end
end Go.Proofs.YtidghoipmggklaaGreat
end

section
/- Which programs are known, and which parameters they allow. -/
namespace Go.Proofs.YtidghoipmggklaaGreat
open Go.RowKit
abbrev isCol (s : ByteArray) : Bool := s.toList == [99, 111, 108, 111, 114, 115]
abbrev isLab (s : ByteArray) : Bool := s.toList == [108, 97, 98, 101, 108, 115]
abbrev isMat (s : ByteArray) : Bool := s.toList == [109, 97, 116, 99, 104, 105, 110, 103]
abbrev isTri (s : ByteArray) : Bool := s.toList == [116, 114, 105, 97, 110, 103, 108, 101, 115]
/-- Is it one of the ten? -/
def allS (s : ByteArray) : Bool := kNm.any (fun y => y.toList == s.toList)
def coreN (L : List Int) : Int := if L.length = 1 ∧ 0 ≤ L.getD 0 0 ∧ L.getD 0 0 ≤ 256 then 0 else 71
/-- Which parameters a program allows, of all ten. -/
def mcheckN (s : ByteArray) (G : List Vx) (L : List Int) : Int := if isLab s then turnN L else if isKc s then coreN L else if isCol s || isMat s || isTri s then noneN L else checkN s G L
theorem beq_sym (a b : List UInt8) : (a == b) = (b == a) := by
  rw [Bool.eq_iff_iff, beq_iff_eq, beq_iff_eq]
  exact eq_comm
theorem all_ten (s : ByteArray) : allS s = (isBfs s || (isCc s || (isCol s || (isDeg s || (isKc s || (isLab s || (isMat s || (isPr s || (isSp s || (isTri s)))))))))) := by
  have e0 : (⟨#[98, 102, 115]⟩ : ByteArray).toList = [98, 102, 115] := by kernel_rfl
  have e1 : (⟨#[99, 99]⟩ : ByteArray).toList = [99, 99] := by kernel_rfl
  have e2 : (⟨#[99, 111, 108, 111, 114, 115]⟩ : ByteArray).toList = [99, 111, 108, 111, 114, 115] := by kernel_rfl
  have e3 : (⟨#[100, 101, 103, 114, 101, 101]⟩ : ByteArray).toList = [100, 101, 103, 114, 101, 101] := by kernel_rfl
  have e4 : (⟨#[107, 99, 111, 114, 101]⟩ : ByteArray).toList = [107, 99, 111, 114, 101] := by kernel_rfl
  have e5 : (⟨#[108, 97, 98, 101, 108, 115]⟩ : ByteArray).toList = [108, 97, 98, 101, 108, 115] := by kernel_rfl
  have e6 : (⟨#[109, 97, 116, 99, 104, 105, 110, 103]⟩ : ByteArray).toList = [109, 97, 116, 99, 104, 105, 110, 103] := by kernel_rfl
  have e7 : (⟨#[112, 97, 103, 101, 114, 97, 110, 107]⟩ : ByteArray).toList = [112, 97, 103, 101, 114, 97, 110, 107] := by kernel_rfl
  have e8 : (⟨#[115, 115, 115, 112]⟩ : ByteArray).toList = [115, 115, 115, 112] := by kernel_rfl
  have e9 : (⟨#[116, 114, 105, 97, 110, 103, 108, 101, 115]⟩ : ByteArray).toList = [116, 114, 105, 97, 110, 103, 108, 101, 115] := by kernel_rfl
  unfold allS kNm
  simp only [List.any_cons, List.any_nil, e0, e1, e2, e3, e4, e5, e6, e7, e8, e9, Bool.or_false]
  rw [beq_sym [98, 102, 115], beq_sym [99, 99], beq_sym [99, 111, 108, 111, 114, 115], beq_sym [100, 101, 103, 114, 101, 101], beq_sym [107, 99, 111, 114, 101], beq_sym [108, 97, 98, 101, 108, 115], beq_sym [109, 97, 116, 99, 104, 105, 110, 103], beq_sym [112, 97, 103, 101, 114, 97, 110, 107], beq_sym [115, 115, 115, 112], beq_sym [116, 114, 105, 97, 110, 103, 108, 101, 115]]
set_option maxRecDepth 100000 in
theorem core_any {ao : Option Addr} (L : List Int) (n cap : Nat) (w : World) (hn : n = L.length) (hL : IsAt w ao L) : Calls Tryz.prog 155 #[.slice ao n cap] w fun r w' => r = .returned (.int .i64 (coreN L)) ∧ w' = w := by
  by_cases h1 : n = 1
  · obtain ⟨b, off, rfl, hc⟩ := hL.one (by omega)
    have HT : Hid (coreN L = if 0 ≤ L.getD 0 0 ∧ L.getD 0 0 ≤ 256 then 0 else 71) := by
      show _ = _
      unfold coreN
      have : L.length = 1 := by omega
      simp [this]
    generalize L.getD 0 0 = x at hc HT
    subst h1
    rw [HT.out]
    clear hn hL HT
    go_enter Tryz.func155, Tryz.ntmps155
    by_cases g0 : x < 0
    · go_wp2
      all_goals first | (exfalso; omega) | (go_ret; exact ⟨by first | rfl | (rw [if_neg (by omega)]; rfl), rfl⟩)
    · by_cases g1 : 256 < x
      · go_wp2
        all_goals first | (exfalso; omega) | (go_ret; exact ⟨by first | rfl | (rw [if_neg (by omega)]; rfl), rfl⟩)
      · go_wp2
        all_goals first | (exfalso; omega) | (go_ret; exact ⟨by first | rfl | (rw [if_pos (by omega)]; rfl), rfl⟩)
  · have HT : Hid (coreN L = 71) := by
      show _ = _
      unfold coreN
      rw [if_neg (by omega)]
    rw [HT.out]
    have hb : ((n : Int) != 1) = true := by simp; omega
    clear hn hL HT
    go_enter Tryz.func155, Tryz.ntmps155
    go_wp2
    all_goals first | (exfalso; omega) | (go_ret; exact ⟨rfl, rfl⟩)
set_option maxRecDepth 100000 in
theorem kc_progs (w : World) : Calls Tryz.prog 148 #[] w fun r w' => r = .returned (.slice (some ⟨w.heap.size, 0, none⟩) 10 10) ∧ w' = w.alloc (.cells (kNm.map Value.string).toArray 9) := by
  go_enter Tryz.func148, Tryz.ntmps148
  go_wp2
  go_ret
  exact ⟨rfl, rfl⟩
set_option maxRecDepth 100000 in
set_option maxHeartbeats 1000000 in
theorem index_any (s : ByteArray) (w : World) (b : Nat) (hc : ∀ j (hj : j < kNm.length), w.cell? ⟨b, j, none⟩ = some (.string kNm[j])) : Calls Tryz.prog 191 #[.slice (some ⟨b, 0, none⟩) 10 10, .string s] w fun r w' => ∃ k : Int, r = .returned (.int .i64 k) ∧ decide (0 ≤ k) = allS s ∧ w' = w := by
  have HC : Hid _ := hc
  clear hc
  go_enter Tryz.func191, Tryz.ntmps191
  go_wp2
  go_loopw [5, 8] (fun _ i wr => ∃ j : Nat, j ≤ 10 ∧ i = .int .i64 j ∧ Hid (∀ y ∈ kNm.take j, (y.toList == s.toList) = false) ∧ wr = w) (fun _ i _ => 10 - (intOf i).toNat)
  case atStart => exact ⟨0, Nat.zero_le _, rfl, (fun y hy => (by simp at hy)), rfl⟩
  case round =>
    obtain ⟨j, hj, rfl, HF, rfl⟩ := hrel
    by_cases hlt : j < 10
    · have c1 := HC.out j hlt
      have HN : Hid (∀ y ∈ kNm.take (j + 1), y ∈ kNm.take j ∨ y = kNm[j]'hlt) := fun y hy => by
        rw [List.take_succ_eq_append_getElem hlt] at hy
        rcases List.mem_append.1 hy with hy | hy
        · exact Or.inl hy
        · exact Or.inr (by simpa using hy)
      have HMem : Hid (kNm[j]'hlt ∈ kNm) := List.getElem_mem hlt
      generalize kNm[j]'hlt = y at c1 HN HMem
      have hsy := beq_sym s.toList y.toList
      cases hy : (y.toList == s.toList)
      · rw [hy] at hsy
        have HY : Hid _ := hy
        clear hy
        go_wp2
        go_roundw
        case rel =>
          refine ⟨j + 1, by omega, by go_num, fun z hz => ?_, by first | rfl | trivial⟩
          rcases HN.out z hz with h | rfl
          · exact HF.out z h
          · exact HY.out
        case measure => simp [intOf]; omega
      · rw [hy] at hsy
        have HA : Hid (allS s = true) := List.any_eq_true.2 ⟨y, HMem.out, hy⟩
        clear hy
        go_wp2
        go_ret
        exact ⟨j, rfl, by rw [HA.out]; simp, rfl⟩
    · obtain rfl : j = 10 := by omega
      have HA : Hid (allS s = false) := by
        show _ = _
        unfold allS
        rw [List.any_eq_false]
        intro y hy
        rw [HF.out y (by rw [List.take_of_length_le (by decide)]; exact hy)]
        simp
      go_wp2
      go_ret
      exact ⟨-1, rfl, by rw [HA.out]; rfl, rfl⟩
set_option maxRecDepth 100000 in
theorem contains_any (s : ByteArray) (w : World) (b : Nat) (hc : ∀ j (hj : j < kNm.length), w.cell? ⟨b, j, none⟩ = some (.string kNm[j])) : Calls Tryz.prog 147 #[.slice (some ⟨b, 0, none⟩) 10 10, .string s] w fun r w' => r = .returned (.bool (allS s)) ∧ w' = w := by
  have HC : Hid _ := hc
  clear hc
  go_enter Tryz.func147, Tryz.ntmps147
  go_wp2_with (go_at_call 191; refine (index_any s _ b HC.out).mono ?_; rintro r w1 ⟨k, rfl, hk, rfl⟩; have HK : Hid _ := hk; clear hk)
  go_ret
  exact ⟨by rw [HK.out]; rfl, rfl⟩
set_option maxRecDepth 100000 in
theorem mknown_any (s : ByteArray) (w : World) : Calls Tryz.prog 100 #[.string s] w fun r w' => r = .returned (.bool (allS s)) ∧ Below w.heap.size w w' := by
  go_enter Tryz.func100, Tryz.ntmps100
  go_wp2_with (first
    | (go_at_call 148; refine (kc_progs _).mono ?_; rintro r w1 ⟨rfl, hw1⟩; obtain ⟨hc1, hb1⟩ := kc_row kNm hw1.symm; have HC1 : Hid _ := hc1; have HB1 : Hid _ := hb1; clear hw1 hc1 hb1)
    | (go_at_call 147; refine (contains_any s _ _ HC1.out).mono ?_; rintro r w2 ⟨rfl, rfl⟩))
  go_ret
  exact ⟨rfl, HB1.out⟩
set_option maxRecDepth 100000 in
set_option maxHeartbeats 1000000 in
theorem rknown_all (s : ByteArray) (w : World) : Calls Tryz.prog 43 #[.string s] w fun r w' => r = .returned (.bool (allS s)) ∧ Below w.heap.size w w' := by
  cases hs : allS s
  · have HS : Hid (∀ y ∈ kNm, (y.toList == s.toList) = false) := fun y hy => by
      unfold allS at hs
      rw [List.any_eq_false] at hs
      simpa using hs y hy
    clear hs
    go_enter Tryz.func43, Tryz.ntmps43
    go_wp2_with (go_at_call 104; refine (kc_names _).mono ?_; rintro r w1 ⟨rfl, hw1⟩; obtain ⟨hc1, hb1⟩ := kc_row kNm hw1.symm; have HC1 : Hid _ := hc1; have HB1 : Hid _ := hb1; clear hw1 hc1 hb1)
    go_loopw [2, 4] (fun _ i wr => ∃ j : Nat, j ≤ 10 ∧ i = .int .i64 j ∧ wr = w1) (fun _ i _ => 10 - (intOf i).toNat)
    case atStart => exact ⟨0, Nat.zero_le _, rfl, rfl⟩
    case round =>
      obtain ⟨j, hj, rfl, rfl⟩ := hrel
      by_cases hlt : j < 10
      · have c1 := HC1.out j hlt
        have hy := HS.out _ (List.getElem_mem hlt)
        generalize kNm[j]'hlt = y at c1 hy
        go_wp2
        go_roundw
        case rel => exact ⟨j + 1, by omega, by go_num, by first | rfl | trivial⟩
        case measure => simp [intOf]; omega
      · obtain rfl : j = 10 := by omega
        go_wp2
        go_ret
        exact ⟨rfl, HB1.out⟩
  · refine rknown_any s w ?_
    unfold allS at hs
    rw [List.any_eq_true] at hs
    exact hs
section
variable {w : World} {P : Nat → Prop} {ao po : Option Addr} {s : ByteArray} {G : List Vx} {L : List Int} {n cap pn pc : Nat}
set_option maxRecDepth 100000 in
set_option maxHeartbeats 2000000 in
theorem rcheck_lab (h4 : (s.toList == [108, 97, 98, 101, 108, 115]) = true) (hp : pn = L.length) (hL : IsAt w po L) :
    Calls Tryz.prog 45 #[.string s, .slice ao n cap, .slice po pn pc] w fun r w' => r = .returned (.int .i64 (turnN L)) ∧ Below w.heap.size w w' := by
  have e := eq_of_beq h4
  have h1 : (s.toList == [98, 102, 115]) = false := by rw [e]; rfl
  have h2 : (s.toList == [115, 115, 115, 112]) = false := by rw [e]; rfl
  have h3 : (s.toList == [112, 97, 103, 101, 114, 97, 110, 107]) = false := by rw [e]; rfl
  by_cases hp1 : pn = 1
  · obtain ⟨b, off, rfl, hc⟩ := hL.one (by omega)
    have HT : Hid (turnN L = if 0 ≤ L.getD 0 0 ∧ L.getD 0 0 ≤ 100 then 0 else 71) := by
      show _ = _
      unfold turnN
      have : L.length = 1 := by omega
      simp [this]
    generalize L.getD 0 0 = x at hc HT
    subst hp1
    rw [HT.out]
    clear hp hL HT e
    go_enter Tryz.func45, Tryz.ntmps45
    by_cases g0 : x < 0
    · go_wp2
      all_goals first | (exfalso; omega) | (go_ret; exact ⟨by first | rfl | (rw [if_neg (by omega)]; rfl), Below.refl _ _⟩)
    · by_cases g1 : 100 < x
      · go_wp2
        all_goals first | (exfalso; omega) | (go_ret; exact ⟨by first | rfl | (rw [if_neg (by omega)]; rfl), Below.refl _ _⟩)
      · go_wp2
        all_goals first | (exfalso; omega) | (go_ret; exact ⟨by first | rfl | (rw [if_pos (by omega)]; rfl), Below.refl _ _⟩)
  · have HT : Hid (turnN L = 71) := by
      show _ = _
      unfold turnN
      rw [if_neg (by omega)]
    rw [HT.out]
    have hb : ((pn : Int) != 1) = true := by simp; omega
    clear hp hL HT e
    go_enter Tryz.func45, Tryz.ntmps45
    go_wp2
    all_goals first | (exfalso; omega) | (go_ret; exact ⟨rfl, Below.refl _ _⟩)
set_option maxRecDepth 100000 in
set_option maxHeartbeats 2000000 in
theorem rcheck_kc (h4 : (s.toList == [107, 99, 111, 114, 101]) = true) (hp : pn = L.length) (hL : IsAt w po L) :
    Calls Tryz.prog 45 #[.string s, .slice ao n cap, .slice po pn pc] w fun r w' => r = .returned (.int .i64 (coreN L)) ∧ Below w.heap.size w w' := by
  have e := eq_of_beq h4
  have h1 : (s.toList == [98, 102, 115]) = false := by rw [e]; rfl
  have h2 : (s.toList == [115, 115, 115, 112]) = false := by rw [e]; rfl
  have h5 : (s.toList == [108, 97, 98, 101, 108, 115]) = false := by rw [e]; rfl
  have h3 : (s.toList == [112, 97, 103, 101, 114, 97, 110, 107]) = false := by rw [e]; rfl
  by_cases hp1 : pn = 1
  · obtain ⟨b, off, rfl, hc⟩ := hL.one (by omega)
    have HT : Hid (coreN L = if 0 ≤ L.getD 0 0 ∧ L.getD 0 0 ≤ 256 then 0 else 71) := by
      show _ = _
      unfold coreN
      have : L.length = 1 := by omega
      simp [this]
    generalize L.getD 0 0 = x at hc HT
    subst hp1
    rw [HT.out]
    clear hp hL HT e
    go_enter Tryz.func45, Tryz.ntmps45
    by_cases g0 : x < 0
    · go_wp2
      all_goals first | (exfalso; omega) | (go_ret; exact ⟨by first | rfl | (rw [if_neg (by omega)]; rfl), Below.refl _ _⟩)
    · by_cases g1 : 256 < x
      · go_wp2
        all_goals first | (exfalso; omega) | (go_ret; exact ⟨by first | rfl | (rw [if_neg (by omega)]; rfl), Below.refl _ _⟩)
      · go_wp2
        all_goals first | (exfalso; omega) | (go_ret; exact ⟨by first | rfl | (rw [if_pos (by omega)]; rfl), Below.refl _ _⟩)
  · have HT : Hid (coreN L = 71) := by
      show _ = _
      unfold coreN
      rw [if_neg (by omega)]
    rw [HT.out]
    have hb : ((pn : Int) != 1) = true := by simp; omega
    clear hp hL HT e
    go_enter Tryz.func45, Tryz.ntmps45
    go_wp2
    all_goals first | (exfalso; omega) | (go_ret; exact ⟨rfl, Below.refl _ _⟩)
set_option maxRecDepth 100000 in
set_option maxHeartbeats 1000000 in
theorem rcheck_un (h1 : (s.toList == [98, 102, 115]) = false) (h2 : (s.toList == [115, 115, 115, 112]) = false) (h4 : (s.toList == [112, 97, 103, 101, 114, 97, 110, 107]) = false) (h5 : (s.toList == [108, 97, 98, 101, 108, 115]) = false) (h6 : (s.toList == [107, 99, 111, 114, 101]) = false) (hk : allS s = false) :
    Calls Tryz.prog 45 #[.string s, .slice ao n cap, .slice po pn pc] w fun r w' => r = .returned (.int .i64 70) ∧ Below w.heap.size w w' := by
  have HK : Hid _ := hk
  clear hk
  go_enter Tryz.func45, Tryz.ntmps45
  go_wp2_with (go_at_call 43; refine (rknown_all s _).mono ?_; rintro r w1 ⟨rfl, hb1⟩; rw [HK.out]; have HB1 : Hid _ := hb1; clear hb1)
  go_ret
  exact ⟨rfl, HB1.out⟩
/-- The document's Check, of any name. -/
theorem rcheck_all (hn : n = G.length) (hp : pn = L.length) (hG : VxAt w P ao G) (hok : ∀ v ∈ G, v.ok) (hL : IsAt w po L) (hl : G.length ≤ 256) :
    Calls Tryz.prog 45 #[.string s, .slice ao n cap, .slice po pn pc] w fun r w' => r = .returned (.int .i64 (mcheckN s G L)) ∧ Below w.heap.size w w' := by
  unfold mcheckN
  cases h5 : isLab s
  · cases h6 : isKc s
    · cases hx : (isCol s || isMat s || isTri s)
      · simp only [Bool.false_eq_true, if_false]
        cases ho : ownS s
        · rw [check_none ho]
          have hx2 := hx
          have ho2 := ho
          unfold ownS at ho2
          simp only [Bool.or_eq_false_iff] at ho2 hx2
          obtain ⟨⟨⟨⟨g1, g2⟩, g3⟩, g4⟩, g8⟩ := ho2
          obtain ⟨⟨g5, g6⟩, g7⟩ := hx2
          exact rcheck_un g1 g8 g4 h5 h6 (by rw [all_ten, g1, g2, g3, g4, g5, g6, g7, g8, h5, h6]; rfl)
        · exact rcheck_any ho hn hp hG hok hL hl
      · simp only [Bool.false_eq_true, if_false, if_true]
        rcases Bool.or_eq_true_iff.1 hx with hx | hc
        · rcases Bool.or_eq_true_iff.1 hx with hc | hc
          · have e : s.toList = [99, 111, 108, 111, 114, 115] := eq_of_beq hc
            exact rcheck_none (by rw [e]; rfl) (by rw [e]; rfl) (by rw [e]; rfl) h5 h6 ⟨⟨#[99, 111, 108, 111, 114, 115]⟩, by simp [kNm], by rw [e]; kernel_rfl⟩ hp
          · have e : s.toList = [109, 97, 116, 99, 104, 105, 110, 103] := eq_of_beq hc
            exact rcheck_none (by rw [e]; rfl) (by rw [e]; rfl) (by rw [e]; rfl) h5 h6 ⟨⟨#[109, 97, 116, 99, 104, 105, 110, 103]⟩, by simp [kNm], by rw [e]; kernel_rfl⟩ hp
        · have e : s.toList = [116, 114, 105, 97, 110, 103, 108, 101, 115] := eq_of_beq hc
          exact rcheck_none (by rw [e]; rfl) (by rw [e]; rfl) (by rw [e]; rfl) h5 h6 ⟨⟨#[116, 114, 105, 97, 110, 103, 108, 101, 115]⟩, by simp [kNm], by rw [e]; kernel_rfl⟩ hp
    · simp only [Bool.false_eq_true, if_false, if_true]
      exact rcheck_kc h6 hp hL
  · simp only [if_true]
    exact rcheck_lab h5 hp hL
set_option linter.unusedSimpArgs false in
set_option maxRecDepth 100000 in
set_option maxHeartbeats 1000000 in
/-- more.Check, of any name. -/
theorem mocheck_any (hn : n = G.length) (hp : pn = L.length) (hG : VxAt w P ao G) (hok : ∀ v ∈ G, v.ok) (hL : IsAt w po L) (hl : G.length ≤ 256) (hr : Rise (ids G)) :
    Calls Tryz.prog 102 #[.string s, .agg #[.slice ao n cap], .slice po pn pc] w fun r w' => r = .returned (.int .i64 (mcheckN s G L)) ∧ Below w.heap.size w w' := by
  obtain ⟨W0, hW0⟩ : ∃ W0, w.alloc (.cells #[.slice ao n cap] 24) = W0 := ⟨_, rfl⟩
  have hB0 : Below w.heap.size w W0 := by rw [← hW0]; exact (Below.refl _ _).alloc (Nat.le_refl _) _
  have hcg : W0.cell? ⟨w.heap.size, 0, none⟩ = some (.slice ao n cap) := by
    have hh : W0.heap[w.heap.size]? = some (.cells #[.slice ao n cap] 24 (0, 0)) := by rw [← hW0]; exact heap_alloc_new _ _
    simp [World.cell?, hh]
  have HK : Hid (Calls Tryz.prog 157 #[.string s, .agg #[.slice ao n cap], .slice po pn pc] W0 fun r w' => r = .returned (.int .i64 (checkN s G L)) ∧ Below W0.heap.size W0 w') := kcheck_any hn hp (kc_new hG hB0) hok (hL.new hB0) hl hr
  have HT : Hid (Calls Tryz.prog 154 #[.slice po pn pc] W0 fun r w' => r = .returned (.int .i64 (turnN L)) ∧ w' = W0) := turns_any L pn pc W0 hp (hL.new hB0)
  have HC : Hid (Calls Tryz.prog 155 #[.slice po pn pc] W0 fun r w' => r = .returned (.int .i64 (coreN L)) ∧ w' = W0) := core_any L pn pc W0 hp (hL.new hB0)
  have HO : Hid (Calls Tryz.prog 156 #[.slice po pn pc] W0 fun r w' => r = .returned (.int .i64 (noneN L)) ∧ w' = W0) := none_any L pn pc W0 hp
  have HB0 : Hid _ := hB0
  clear hn hp hG hok hL hl hr hB0
  unfold mcheckN isLab isKc isCol isMat isTri
  generalize checkN s G L = R0 at HK
  generalize turnN L = R1 at HT
  generalize coreN L = R2 at HC
  generalize noneN L = R3 at HO
  cases h1 : (s.toList == [108, 97, 98, 101, 108, 115])
  · cases h2 : (s.toList == [107, 99, 111, 114, 101])
    · cases h3 : (s.toList == [99, 111, 108, 111, 114, 115])
      · cases h4 : (s.toList == [109, 97, 116, 99, 104, 105, 110, 103])
        · cases h5 : (s.toList == [116, 114, 105, 97, 110, 103, 108, 101, 115])
          · simp only [Bool.false_eq_true, if_false, Bool.or_self]
            go_enter Tryz.func102, Tryz.ntmps102
            go_wp2_with (go_at_call 157; refine HK.out.mono ?_; rintro r w1 ⟨rfl, hb1⟩; have HB1 : Hid _ := hb1; clear hb1)
            go_ret
            exact ⟨rfl, HB0.out.trans (HB1.out.mono HB0.out.size)⟩
          · simp only [Bool.false_eq_true, if_false, if_true, Bool.or_true, Bool.or_false, Bool.true_or, Bool.false_or]
            go_enter Tryz.func102, Tryz.ntmps102
            go_wp2_with (go_at_call 156; refine HO.out.mono ?_; rintro r w1 ⟨rfl, rfl⟩)
            go_ret
            exact ⟨rfl, HB0.out⟩
        · simp only [Bool.false_eq_true, if_false, if_true, Bool.or_true, Bool.or_false, Bool.true_or, Bool.false_or]
          go_enter Tryz.func102, Tryz.ntmps102
          go_wp2_with (go_at_call 156; refine HO.out.mono ?_; rintro r w1 ⟨rfl, rfl⟩)
          go_ret
          exact ⟨rfl, HB0.out⟩
      · simp only [Bool.false_eq_true, if_false, if_true, Bool.or_true, Bool.or_false, Bool.true_or, Bool.false_or]
        go_enter Tryz.func102, Tryz.ntmps102
        go_wp2_with (go_at_call 156; refine HO.out.mono ?_; rintro r w1 ⟨rfl, rfl⟩)
        go_ret
        exact ⟨rfl, HB0.out⟩
    · simp only [Bool.false_eq_true, if_false, if_true]
      go_enter Tryz.func102, Tryz.ntmps102
      go_wp2_with (go_at_call 155; refine HC.out.mono ?_; rintro r w1 ⟨rfl, rfl⟩)
      go_ret
      exact ⟨rfl, HB0.out⟩
  · simp only [if_true]
    go_enter Tryz.func102, Tryz.ntmps102
    go_wp2_with (go_at_call 154; refine HT.out.mono ?_; rintro r w1 ⟨rfl, rfl⟩)
    go_ret
    exact ⟨rfl, HB0.out⟩
end
end Go.Proofs.YtidghoipmggklaaGreat
end

section
/- Messages as plain lists: their order, a list in order, what a box holds, what a combiner makes. No function of the program is named here. -/
namespace Go.Proofs.YtidghoipmggklaaGreat
open Go.RowKit

/-- A message: From, To, At, V. -/
structure Msg where
  f : Int
  t : Int
  a : Int
  v : Int
structure Msg.ok (m : Msg) : Prop where
  f : I64 m.f
  t : I64 m.t
  a : I64 m.a
  v : I64 m.v
def c3 (x y : Int) : Int := if x < y then -1 else if y < x then 1 else 0
/-- Does a message stand ahead of another one? -/
def mlt (x y : Msg) : Bool :=
  if x.t ≠ y.t then decide (x.t < y.t) else if x.f ≠ y.f then decide (x.f < y.f) else if x.a ≠ y.a then decide (x.a < y.a) else decide (x.v < y.v)
/-- A combiner's step: the value and the error. -/
def jn (k : Int) (a b : Int) : Int := if k = 2 then (if b < a then b else a) else if k = 3 then (if a < b then b else a) else a + b
end Go.Proofs.YtidghoipmggklaaGreat
end

section
/- Requests as plain lists: their order, those that count, what each does to a graph. No function of the program is named here. -/
namespace Go.Proofs.YtidghoipmggklaaGreat
open Go.RowKit

/-- A request: Kind, ID, To, V. -/
structure Mu where
  k : Int
  i : Int
  t : Int
  v : Int
structure Mu.ok (m : Mu) : Prop where
  k : I64 m.k
  i : I64 m.i
  t : I64 m.t
  v : I64 m.v
def u3 (x y : Int) : Int := if x < y then -1 else if y < x then 1 else 0
end Go.Proofs.YtidghoipmggklaaGreat
end

section
/- What a vertex is given, as it lies; rows of messages and requests of one's own; To and Back. -/
namespace Go.Proofs.YtidghoipmggklaaGreat
open Go.RowKit
theorem k_fr {w w' : World} {base : Nat} {e : TypeId} {size : Nat} {v : Value} {n : Nat} {xs : List Value} (h : w.ownsRow base e size v n xs) {S : Nat → Prop} (f : Fr w w' S) (hs : ∀ k, base ≤ k → ¬ S k) : w'.ownsRow base e size v n xs := by
  refine ⟨h.1, ?_⟩
  rcases h.2 with h2 | ⟨g, cap, cur, rfl, h3, h4, h5⟩
  · exact Or.inl h2
  · exact Or.inr ⟨g, cap, cur, rfl, h3, (f.block g (Array.getElem?_eq_some_iff.1 h4).1 (hs g h3)).trans h4, h5⟩
theorem k_new {w w' : World} {base : Nat} {e : TypeId} {size : Nat} {v : Value} {n : Nat} {xs : List Value} (h : w.ownsRow base e size v n xs) (hb : Below w.heap.size w w') : w'.ownsRow base e size v n xs := k_fr h (Fr.ofBelow hb (fun _ => False)) (fun _ _ h => h)
theorem k_shape {w : World} {base : Nat} {e : TypeId} {size : Nat} {v : Value} {n : Nat} {xs : List Value} (h : w.ownsRow base e size v n xs) : ∃ ao c, v = .slice ao n c := by
  rcases h.2 with ⟨rfl, h0⟩ | ⟨g, cap, cur, rfl, _⟩
  · exact ⟨none, 0, by rw [h0]⟩
  · exact ⟨_, _, rfl⟩
theorem k_at {w : World} {base : Nat} {e : TypeId} {size : Nat} {ao : Option Addr} {n c : Nat} {xs : List Value} (h : w.ownsRow base e size (.slice ao n c) n xs) (hn : 0 < n) : ∃ g, ao = some ⟨g, 0, none⟩ ∧ base ≤ g ∧ ∀ i u, xs[i]? = some u → w.cell? ⟨g, i, none⟩ = some u := by
  rcases h.2 with ⟨h1, h0⟩ | ⟨g, cap, cur, h1, h3, _⟩
  · omega
  · cases h1
    refine ⟨g, rfl, h3, fun i u hu => ?_⟩
    have := World.ownsRow.cells h (g := g) rfl i u hu
    rwa [Addr.add_lit, Nat.zero_add] at this
theorem one_newK (w : World) (o : Obj) : Below w.heap.size w (w.alloc o) := (Below.refl _ _).alloc (Nat.le_refl _) _
/-- The cells of an Input's box. -/
def InBox (W : World) (b : Nat) (c : Array Value) : Prop := W.heap[b]? = some (.cells c 254 (0, 0))
theorem InBox.new {W W' : World} {b : Nat} {c : Array Value} (h : InBox W b c) (hb : Below W.heap.size W W') : InBox W' b c := (hb.block _ (Array.getElem?_eq_some_iff.1 h).1).trans h
theorem InBox.made (w : World) (c : Array Value) : InBox (w.alloc (.cells c 254)) w.heap.size c := heap_alloc_new _ _
theorem InBox.cells {W : World} {b : Nat} {a0 a1 a2 a3 a4 a5 a6 a7 a8 a9 a10 a11 a12 a13 a14 a15 a16 a17 : Value} (h : InBox W b #[a0, a1, a2, a3, a4, a5, a6, a7, a8, a9, a10, a11, a12, a13, a14, a15, a16, a17]) :
    W.cell? ⟨b, 0, none⟩ = some a0 ∧ W.cell? ⟨b, 1, none⟩ = some a1 ∧ W.cell? ⟨b, 2, none⟩ = some a2 ∧ W.cell? ⟨b, 3, none⟩ = some a3 ∧ W.cell? ⟨b, 4, none⟩ = some a4 ∧ W.cell? ⟨b, 5, none⟩ = some a5 ∧ W.cell? ⟨b, 6, none⟩ = some a6 ∧ W.cell? ⟨b, 7, none⟩ = some a7 ∧ W.cell? ⟨b, 8, none⟩ = some a8 ∧ W.cell? ⟨b, 9, none⟩ = some a9 ∧ W.cell? ⟨b, 10, none⟩ = some a10 ∧ W.cell? ⟨b, 11, none⟩ = some a11 ∧ W.cell? ⟨b, 12, none⟩ = some a12 ∧ W.cell? ⟨b, 13, none⟩ = some a13 ∧ W.cell? ⟨b, 14, none⟩ = some a14 ∧ W.cell? ⟨b, 15, none⟩ = some a15 ∧ W.cell? ⟨b, 16, none⟩ = some a16 ∧ W.cell? ⟨b, 17, none⟩ = some a17 := by
  unfold InBox at h
  simp [World.cell?, h]
/-- The cells of an Output's box. -/
def OutBox (W : World) (b : Nat) (c : Array Value) : Prop := W.heap[b]? = some (.cells c 251 (0, 0))
theorem OutBox.new {W W' : World} {b : Nat} {c : Array Value} (h : OutBox W b c) (hb : Below W.heap.size W W') : OutBox W' b c := (hb.block _ (Array.getElem?_eq_some_iff.1 h).1).trans h
theorem OutBox.made (w : World) (c : Array Value) : OutBox (w.alloc (.cells c 251)) w.heap.size c := heap_alloc_new _ _
theorem OutBox.cells {W : World} {b : Nat} {a0 a1 a2 a3 a4 a5 a6 a7 a8 a9 a10 a11 a12 a13 a14 : Value} (h : OutBox W b #[a0, a1, a2, a3, a4, a5, a6, a7, a8, a9, a10, a11, a12, a13, a14]) :
    W.cell? ⟨b, 0, none⟩ = some a0 ∧ W.cell? ⟨b, 1, none⟩ = some a1 ∧ W.cell? ⟨b, 2, none⟩ = some a2 ∧ W.cell? ⟨b, 3, none⟩ = some a3 ∧ W.cell? ⟨b, 4, none⟩ = some a4 ∧ W.cell? ⟨b, 5, none⟩ = some a5 ∧ W.cell? ⟨b, 6, none⟩ = some a6 ∧ W.cell? ⟨b, 7, none⟩ = some a7 ∧ W.cell? ⟨b, 8, none⟩ = some a8 ∧ W.cell? ⟨b, 9, none⟩ = some a9 ∧ W.cell? ⟨b, 10, none⟩ = some a10 ∧ W.cell? ⟨b, 11, none⟩ = some a11 ∧ W.cell? ⟨b, 12, none⟩ = some a12 ∧ W.cell? ⟨b, 13, none⟩ = some a13 ∧ W.cell? ⟨b, 14, none⟩ = some a14 := by
  unfold OutBox at h
  simp [World.cell?, h]
theorem fr_setRow (w : World) (g : Nat) (cs : Array Value) : Fr w (w.setRow g cs) (fun k => k = g) := ⟨rfl, rfl, rfl, by simp, fun k _ hn => setRow_other w g k cs hn⟩
theorem k_setRow {g : Nat} {w0 w : World} (hb : Below w0.heap.size w0 w) (hBg : w0.heap.size ≤ g) (cs : Array Value) : Below w0.heap.size w0 (w.setRow g cs) := hb.trans ((fr_setRow w g cs).below hb.size (fun k hk => by omega))
end Go.Proofs.YtidghoipmggklaaGreat
end

section
/- run.Check: which jobs may be. -/
namespace Go.Proofs.YtidghoipmggklaaGreat
open Go.RowKit
/-- Which jobs may be: 0, or the error. -/
def jobN (s : ByteArray) (G : List Vx) (ps : List Int) (st se pa : Int) : Int :=
  if allS s = false then 70 else if ¬ chk G = 0 then chk G else if 4 < ps.length then 71 else if ¬ mcheckN s G ps = 0 then mcheckN s G ps else if (1 ≤ st ∧ st ≤ 1000) ∧ (0 ≤ se ∧ se ≤ 65536) ∧ (1 ≤ pa ∧ pa ≤ 16) then 0 else 90
set_option linter.unusedSimpArgs false in
set_option maxRecDepth 100000 in
theorem within_any (n l m : Int) (w : World) : Calls Tryz.prog 103 #[.int .i64 n, .int .i64 l, .int .i64 m] w fun r w' => r = .returned (.bool (decide (l ≤ n ∧ n ≤ m))) ∧ w' = w := by
  by_cases h1 : l ≤ n
  · by_cases h2 : n ≤ m
    · go_enter Tryz.func103, Tryz.ntmps103
      go_wp2
      go_ret
      exact ⟨by simp [h1, h2], rfl⟩
    · have h2' : decide (n ≤ m) = false := by simpa using h2
      go_enter Tryz.func103, Tryz.ntmps103
      go_wp2
      go_ret
      exact ⟨by simp only [h1, h2, and_false, decide_false]; rfl, rfl⟩
  · have h1' : decide (l ≤ n) = false := by simpa using h1
    go_enter Tryz.func103, Tryz.ntmps103
    go_wp2
    go_ret
    exact ⟨by simp only [h1, false_and, decide_false]; rfl, rfl⟩
theorem chk_okJ {G : List Vx} (h : chk G = 0) : G.length ≤ 256 ∧ Rise (ids G) := by
  unfold chk at h
  split at h
  · exact absurd h (by decide)
  · rename_i h1
    have h2 : ¬ 256 < G.length ∧ riseB (ids G) = true := by
      constructor
      · exact fun e => h1 (.inl e)
      · cases e : riseB (ids G)
        · exact absurd (.inr e) h1
        · rfl
    exact ⟨by omega, (riseB_iff _).1 h2.2⟩
def JobBoxC (W : World) (b : Nat) (c : Array Value) : Prop := W.heap[b]? = some (.cells c 27 (0, 0))
theorem job_cells {W : World} {b : Nat} {a0 a1 a2 a3 a4 a5 : Value} (h : JobBoxC W b #[a0, a1, a2, a3, a4, a5]) : W.cell? ⟨b, 0, none⟩ = some a0 ∧ W.cell? ⟨b, 1, none⟩ = some a1 ∧ W.cell? ⟨b, 2, none⟩ = some a2 ∧ W.cell? ⟨b, 3, none⟩ = some a3 ∧ W.cell? ⟨b, 4, none⟩ = some a4 ∧ W.cell? ⟨b, 5, none⟩ = some a5 := by
  unfold JobBoxC at h
  simp [World.cell?, h]
set_option maxRecDepth 100000 in
set_option maxHeartbeats 2000000 in
theorem checkJ_any {w : World} {P : Nat → Prop} {go po : Option Addr} {gn gc pn pc : Nat} {s : ByteArray} {G : List Vx} {ps : List Int} {st se pa : Int} (hn : gn = G.length) (hp : pn = ps.length) (hG : VxAt w P go G) (hok : ∀ v ∈ G, v.ok) (hl : G.length ≤ 9223372036854775807) (hL : IsAt w po ps) (hpl : ps.length ≤ 9223372036854775807) :
    Calls Tryz.prog 42 #[.agg #[.string s, .slice go gn gc, .slice po pn pc, .int .i64 st, .int .i64 se, .int .i64 pa]] w fun r w' => r = .returned (.int .i64 (jobN s G ps st se pa)) ∧ Below w.heap.size w w' := by
  obtain ⟨W0, hW0⟩ : ∃ W0, w.alloc (.cells #[.string s, .slice go gn gc, .slice po pn pc, .int .i64 st, .int .i64 se, .int .i64 pa] 27) = W0 := ⟨_, rfl⟩
  have hb0 : Below w.heap.size w W0 := by rw [← hW0]; exact one_newK _ _
  have hJ0 : JobBoxC W0 w.heap.size #[.string s, .slice go gn gc, .slice po pn pc, .int .i64 st, .int .i64 se, .int .i64 pa] := by rw [← hW0]; exact heap_alloc_new _ _
  obtain ⟨c0, c1, c2, c3, c4, c5⟩ := job_cells hJ0
  have hpn : pn ≤ 9223372036854775807 := by rw [hp]; exact hpl
  have hgl : gn ≤ 9223372036854775807 := by rw [hn]; exact hl
  have HK : Hid _ := mknown_any s W0
  have HCk : Hid (∀ W, Below W0.heap.size W0 W → Calls Tryz.prog 101 #[.agg #[.slice go gn gc]] W fun r w' => r = .returned (.int .i64 (chk G)) ∧ Below W.heap.size W w') := fun W hb => by rw [hn]; exact check_any gc ((hG.new hb0).new hb) hl hok
  have HMc : Hid (chk G = 0 → ∀ W, Below W0.heap.size W0 W → Calls Tryz.prog 102 #[.string s, .agg #[.slice go gn gc], .slice po pn pc] W fun r w' => r = .returned (.int .i64 (mcheckN s G ps)) ∧ Below W.heap.size W w') := fun h0 W hb => mocheck_any hn hp ((hG.new hb0).new hb) hok ((hL.new hb0).new hb) (chk_okJ h0).1 (chk_okJ h0).2
  have HJ : Hid (jobN s G ps st se pa = if allS s = false then 70 else if ¬ chk G = 0 then chk G else if 4 < ps.length then 71 else if ¬ mcheckN s G ps = 0 then mcheckN s G ps else if (1 ≤ st ∧ st ≤ 1000) ∧ (0 ≤ se ∧ se ≤ 65536) ∧ (1 ≤ pa ∧ pa ≤ 16) then 0 else 90) := rfl
  have HJ0 : Hid _ := hJ0
  have HB0 : Hid _ := hb0
  have HPn : Hid _ := hp
  clear hn hp hG hok hL hb0 hJ0 hl hpl
  generalize jobN s G ps st se pa = jn at HJ ⊢
  cases hk : allS s
  · rw [hk] at HK HJ
    go_enter Tryz.func42, Tryz.ntmps42
    go_wp2_with (go_at_call 100; refine Calls.mono HK.out ?_; rintro r w1 ⟨rfl, hb1⟩; have HB1 : Hid _ := hb1; clear hb1)
    go_ret
    exact ⟨by rw [HJ.out]; rfl, HB0.out.trans (HB1.out.mono HB0.out.size)⟩
  · rw [hk] at HK HJ
    generalize chk G = cg at HCk HMc HJ
    go_enter Tryz.func42, Tryz.ntmps42
    go_upto_region 3 with (go_at_call 100; refine Calls.mono HK.out ?_; rintro r w1 ⟨rfl, hb1⟩; have HB1 : Hid _ := hb1; clear hb1)
    obtain ⟨d0, d1, d2, d3, d4, d5⟩ := job_cells ((HB1.out.block _ (Array.getElem?_eq_some_iff.1 HJ0.out).1).trans HJ0.out)
    clear c0 c1 c2 c3 c4 c5 HK
    by_cases hcg : cg = 0
    · subst hcg
      go_upto_region 6 with (go_at_call 101; refine Calls.mono (HCk.out _ HB1.out) ?_; rintro r w2 ⟨rfl, hb2⟩; have HB2 : Hid (Below W0.heap.size W0 w2) := HB1.out.trans (hb2.mono HB1.out.size); clear hb2)
      obtain ⟨e0, e1, e2, e3, e4, e5⟩ := job_cells ((HB2.out.block _ (Array.getElem?_eq_some_iff.1 HJ0.out).1).trans HJ0.out)
      clear d0 d1 d2 d3 d4 d5 HCk HB1
      by_cases h4 : 4 < pn
      · go_wp2
        go_ret
        exact ⟨by rw [HJ.out, ← HPn.out]; simp [h4], HB0.out.trans (HB2.out.mono HB0.out.size)⟩
      · have HM : Hid _ := HMc.out (by first | exact trivial | rfl) _ HB2.out
        generalize mcheckN s G ps = mc at HM HJ
        clear HMc
        go_upto_region 9 with (go_at_call 102; refine Calls.mono HM.out ?_; rintro r w3 ⟨rfl, hb3⟩; have HB3 : Hid (Below W0.heap.size W0 w3) := HB2.out.trans (hb3.mono HB2.out.size); clear hb3)
        obtain ⟨f0, f1, f2, f3, f4, f5⟩ := job_cells ((HB3.out.block _ (Array.getElem?_eq_some_iff.1 HJ0.out).1).trans HJ0.out)
        clear e0 e1 e2 e3 e4 e5 HM HB2
        by_cases hmc : mc = 0
        · subst hmc
          have HJ2 : Hid (jn = if (1 ≤ st ∧ st ≤ 1000) ∧ (0 ≤ se ∧ se ≤ 65536) ∧ (1 ≤ pa ∧ pa ≤ 16) then 0 else 90) := by
            show _ = _
            rw [HJ.out, ← HPn.out]
            simp [h4]
          clear HJ
          by_cases q1 : 1 ≤ st ∧ st ≤ 1000
          · have HW1 : Hid (decide (1 ≤ st ∧ st ≤ 1000) = true) := decide_eq_true q1
            by_cases q2 : 0 ≤ se ∧ se ≤ 65536
            · have HW2 : Hid (decide (0 ≤ se ∧ se ≤ 65536) = true) := decide_eq_true q2
              by_cases q3 : 1 ≤ pa ∧ pa ≤ 16
              · have HW3 : Hid (decide (1 ≤ pa ∧ pa ≤ 16) = true) := decide_eq_true q3
                have HE : Hid (jn = 0) := by show _ = _; rw [HJ2.out, if_pos ⟨q1, q2, q3⟩]
                clear q1 q2 q3 HJ2
                go_wp2_with (go_at_call 103; refine (within_any _ _ _ _).mono ?_; rintro r w4 ⟨rfl, rfl⟩; first | rw [HW1.out] | rw [HW2.out] | rw [HW3.out])
                go_ret
                exact ⟨by rw [HE.out]; rfl, HB0.out.trans (HB3.out.mono HB0.out.size)⟩
              · have HW3 : Hid (decide (1 ≤ pa ∧ pa ≤ 16) = false) := decide_eq_false q3
                have HE : Hid (jn = 90) := by show _ = _; rw [HJ2.out, if_neg (fun h => q3 h.2.2)]
                clear q1 q2 q3 HJ2
                go_wp2_with (go_at_call 103; refine (within_any _ _ _ _).mono ?_; rintro r w4 ⟨rfl, rfl⟩; first | rw [HW1.out] | rw [HW2.out] | rw [HW3.out])
                go_ret
                exact ⟨by rw [HE.out]; rfl, HB0.out.trans (HB3.out.mono HB0.out.size)⟩
            · have HW2 : Hid (decide (0 ≤ se ∧ se ≤ 65536) = false) := decide_eq_false q2
              have HE : Hid (jn = 90) := by show _ = _; rw [HJ2.out, if_neg (fun h => q2 h.2.1)]
              clear q1 q2 HJ2
              go_wp2_with (go_at_call 103; refine (within_any _ _ _ _).mono ?_; rintro r w4 ⟨rfl, rfl⟩; first | rw [HW1.out] | rw [HW2.out])
              go_ret
              exact ⟨by rw [HE.out]; rfl, HB0.out.trans (HB3.out.mono HB0.out.size)⟩
          · have HW1 : Hid (decide (1 ≤ st ∧ st ≤ 1000) = false) := decide_eq_false q1
            have HE : Hid (jn = 90) := by show _ = _; rw [HJ2.out, if_neg (fun h => q1 h.1)]
            clear q1 HJ2
            go_wp2_with (go_at_call 103; refine (within_any _ _ _ _).mono ?_; rintro r w4 ⟨rfl, rfl⟩; rw [HW1.out])
            go_ret
            exact ⟨by rw [HE.out]; rfl, HB0.out.trans (HB3.out.mono HB0.out.size)⟩
        · have hmc' : (mc != 0) = true := by simpa using hmc
          go_wp2
          go_ret
          exact ⟨by rw [HJ.out, ← HPn.out]; simp [h4, hmc], HB0.out.trans (HB3.out.mono HB0.out.size)⟩
    · have hcg' : (cg != 0) = true := by simpa using hcg
      go_wp2_with (go_at_call 101; refine Calls.mono (HCk.out _ HB1.out) ?_; rintro r w2 ⟨rfl, hb2⟩; have HB2 : Hid (Below W0.heap.size W0 w2) := HB1.out.trans (hb2.mono HB1.out.size); clear hb2)
      go_ret
      exact ⟨by rw [HJ.out]; simp [hcg], HB0.out.trans (HB2.out.mono HB0.out.size)⟩
end Go.Proofs.YtidghoipmggklaaGreat
end

section
/- A job's bytes and back, on plain data. -/
namespace Go.Proofs.YtidghoipmggklaaGreat
open Go.RowKit
theorem sg_atJ {s : ByteArray} {a c : List UInt8} {k : Int} (h : s.data.toList = a ++ (sgB k ++ c)) (hk : I64 k) : ∃ n, rdNum s a.length 0 = (n, (a ++ sgB k).length, 0) ∧ unfoldN (n : Nat) = k := by
  have hb : (foldN k).toNat < 18446744073709551616 := by
    have := fold_bd k hk.1 hk.2
    omega
  exact ⟨(foldN k).toNat, num_at h hb, sg_back hk⟩
theorem ba_eqJ {a b : ByteArray} (h : a.data.toList = b.data.toList) : a = b := by
  cases a; cases b; simp only at h; rw [Array.toList_inj.1 h]
theorem ext_listJ (s : ByteArray) (i j : Nat) : (s.extract i j).data.toList = (s.data.toList.drop i).take (j - i) := by simp
theorem text_atJ {s t : ByteArray} {a c : List UInt8} (h : s.data.toList = a ++ (textB t.data.toList ++ c)) (ht : t.size < 18446744073709551616) : rdText s a.length 0 = (t, (a ++ textB t.data.toList).length, 0) := by
  have hl : t.data.toList.length = t.size := by simp
  have h' : s.data.toList = a ++ (numB t.size ++ (t.data.toList ++ c)) := by rw [h]; unfold textB; rw [hl]; simp
  have hs : s.size = a.length + ((numB t.size).length + (t.size + c.length)) := by
    have : s.size = s.data.toList.length := by simp
    rw [this, h']; simp
  have hL : (textB t.data.toList).length = (numB t.size).length + t.size := by unfold textB; simp
  have hp : pnum (s.data.toList.drop a.length) = (t.size, (numB t.size).length, 0) := by rw [at_drop h']; exact pnum_num _ ht
  refine (rd_ok hp).trans ?_
  rw [if_neg (by omega), List.length_append, hL]
  have h2 : s.data.toList = (a ++ numB t.size) ++ (t.data.toList ++ c) := by rw [h']; simp
  have : s.extract (a.length + (numB t.size).length) (a.length + (numB t.size).length + t.size) = t := ba_eqJ (by
    rw [ext_listJ, show a.length + (numB t.size).length + t.size - (a.length + (numB t.size).length) = t.data.toList.length by omega, show a.length + (numB t.size).length = (a ++ numB t.size).length by simp, at_drop h2, List.take_left])
  rw [this, Nat.add_assoc]
theorem rdText_leJ {s x : ByteArray} {a a' : Nat} {e e' : Int} (ha : a ≤ s.size) (h : rdText s a e = (x, a', e')) : a' ≤ s.size := by
  by_cases he : e = 0
  · subst he
    rcases three s a ha with ⟨m, k, hp, h1, h2, h3, h4⟩ | ⟨m, k, x, hp, hx⟩
    · have hq : rdText s a 0 = if s.size - (a + k) < m then (ByteArray.empty, a, 4) else (s.extract (a + k) (a + k + m), a + k + m, 0) := rd_ok hp
      rw [hq] at h
      split at h <;> simp only [Prod.mk.injEq] at h <;> omega
    · rw [show rdText s a 0 = (ByteArray.empty, a, (x : Int)) from rd_bad hp hx] at h
      simp only [Prod.mk.injEq] at h; omega
  · rw [show rdText s a e = (ByteArray.empty, a, e) from rd_err he] at h
    simp only [Prod.mk.injEq] at h; omega
theorem rtext_j {w : World} {p : Nat} {s x : ByteArray} {a a' : Nat} {e e' : Int} (h : Rd w p s a e) (hs : s.size ≤ maxLen) (ha : a ≤ s.size) (hq : rdText s a e = (x, a', e')) :
    Calls Tryz.prog 53 #[.pointer (some ⟨p, 0, none⟩)] w fun r w' => r = .returned (.string x) ∧ Rd w' p s a' e' ∧ Fr w w' (fun k => k = p) := by
  have := rtext_any h hs ha; rw [hq] at this; exact this
/-- A job's bytes. -/
def jobB (t : ByteArray) (G : List Vx) (ps : List Int) (st se pa : Nat) : List UInt8 :=
  textB t.data.toList ++ grB G ++ numB ps.length ++ ps.flatMap sgB ++ numB st ++ numB se ++ numB pa
/-- So many numbers behind others, off bytes. -/
def rdPs (s : ByteArray) : Nat → Nat → Int → List Int → List Int × Nat × Int
  | 0, a, e, L => (L, a, e)
  | n + 1, a, e, L => rdPs s n (rdNum s a e).2.1 (rdNum s a e).2.2 (L ++ [unfoldN (rdNum s a e).1])
theorem rdPs_step {s : ByteArray} {n a n1 a1 : Nat} {e e1 : Int} {L : List Int} (h1 : rdNum s a e = (n1, a1, e1)) : rdPs s (n + 1) a e L = rdPs s n a1 e1 (L ++ [unfoldN n1]) := by
  show rdPs s n (rdNum s a e).2.1 (rdNum s a e).2.2 _ = _
  simp only [h1]
theorem rdPs_to {s : ByteArray} : ∀ (n a : Nat) (e : Int) (L : List Int), a ≤ s.size → (∀ x ∈ L, I64 x) → (rdPs s n a e L).2.1 ≤ s.size ∧ (rdPs s n a e L).1.length = L.length + n ∧ (∀ x ∈ (rdPs s n a e L).1, I64 x)
  | 0, _, _, _, ha, hL => ⟨ha, rfl, hL⟩
  | n + 1, a, e, L, ha, hL => by
    obtain ⟨⟨n1, x1, y1⟩, q1⟩ : ∃ q, rdNum s a e = q := ⟨_, rfl⟩
    have g1 := rdNum_to ha q1
    rw [rdPs_step q1]
    have := rdPs_to n x1 y1 (L ++ [unfoldN n1]) g1.1 (fun x hx => by
      rcases List.mem_append.1 hx with h | h
      · exact hL x h
      · rw [List.mem_singleton.1 h]; exact unfold_bd n1 (by omega) (by have := g1.2.1; omega))
    refine ⟨this.1, ?_, this.2.2⟩
    rw [this.2.1]; simp; omega
theorem ps_at : ∀ (M : List Int) {s : ByteArray} {a c : List UInt8} {L : List Int}, s.data.toList = a ++ (M.flatMap sgB ++ c) → (∀ m ∈ M, I64 m) → rdPs s M.length a.length 0 L = (L ++ M, (a ++ M.flatMap sgB).length, 0)
  | [], s, a, c, L, h, _ => by simp [rdPs]
  | m :: M, s, a, c, L, h, hok => by
    have hm := hok m (by simp)
    rw [List.flatMap_cons] at h
    obtain ⟨n1, h1, u1⟩ := sg_atJ (s := s) (a := a) (c := M.flatMap sgB ++ c) (k := m) (by rw [h]; simp only [List.append_assoc]) hm
    rw [List.length_cons, rdPs_step h1, u1]
    have ih := ps_at M (s := s) (a := a ++ sgB m) (c := c) (L := L ++ [m]) (by rw [h]; simp only [List.append_assoc]) (fun x hx => hok x (by simp [hx]))
    rw [ih, List.flatMap_cons]
    simp only [List.append_assoc, List.singleton_append]
/-- What is read as a job's parts, one behind the other. -/
structure JR (s : ByteArray) (a0 : Nat) (e0 : Int) (t : ByteArray) (G : List Vx) (n : Nat) (ps : List Int) (st se pa a1 a2 a3 a4 a5 a6 a7 : Nat) (e1 e2 e3 e4 e5 e6 e7 : Int) : Prop where
  h1 : rdText s a0 e0 = (t, a1, e1)
  h2 : rdG s a1 e1 = (G, a2, e2)
  h3 : rdCount s a2 e2 4 = (n, a3, e3)
  h4 : rdPs s n a3 e3 [] = (ps, a4, e4)
  h5 : rdCount s a4 e4 1000 = (st, a5, e5)
  h6 : rdCount s a5 e5 65536 = (se, a6, e6)
  h7 : rdCount s a6 e6 16 = (pa, a7, e7)
/-- Bounds of what is read. -/
structure JTo (s t : ByteArray) (G : List Vx) (n : Nat) (ps : List Int) (st se pa a1 a2 a3 a4 a5 a6 a7 : Nat) (e3 : Int) : Prop where
  b1 : a1 ≤ s.size
  b2 : a2 ≤ s.size
  b3 : a3 ≤ s.size
  b4 : a4 ≤ s.size
  b5 : a5 ≤ s.size
  b6 : a6 ≤ s.size
  b7 : a7 ≤ s.size
  nle : n ≤ 4
  n0 : 0 < n → e3 = 0
  len : ps.length = n
  gl : G.length ≤ 256
  gok : ∀ v ∈ G, v.ok
  pok : ∀ x ∈ ps, I64 x
  st : st ≤ 1000
  se : se ≤ 65536
  pa : pa ≤ 16
theorem JR.to {s t : ByteArray} {a0 : Nat} {e0 : Int} {G : List Vx} {n : Nat} {ps : List Int} {st se pa a1 a2 a3 a4 a5 a6 a7 : Nat} {e1 e2 e3 e4 e5 e6 e7 : Int} (h : JR s a0 e0 t G n ps st se pa a1 a2 a3 a4 a5 a6 a7 e1 e2 e3 e4 e5 e6 e7) (ha : a0 ≤ s.size) : JTo s t G n ps st se pa a1 a2 a3 a4 a5 a6 a7 e3 := by
  have g1 := rdText_leJ ha h.h1
  have g2 := rdG_to (e := e1) g1
  rw [h.h2] at g2
  have g3 := rdCount_to (most := 4) g2.1 h.h3
  have g4 := rdPs_to n a3 e3 [] g3.1 (fun x hx => by cases hx)
  rw [h.h4] at g4
  have g5 := rdCount_to (most := 1000) g4.1 h.h5
  have g6 := rdCount_to (most := 65536) g5.1 h.h6
  have g7 := rdCount_to (most := 16) g6.1 h.h7
  exact ⟨g1, g2.1, g3.1, g4.1, g5.1, g6.1, g7.1, g3.2.1, g3.2.2.2, by simpa using g4.2.1, g2.2.1, g2.2.2, g4.2.2, g5.2.1, g6.2.1, g7.2.1⟩
theorem jr_back {s t : ByteArray} {G : List Vx} {ps : List Int} {st se pa : Nat} {a c : List UInt8} (h : s.data.toList = a ++ (jobB t G ps st se pa ++ c)) (ht : t.size < 18446744073709551616) (hok : ∀ v ∈ G, v.ok) (hc : chk G = 0) (hp : ps.length ≤ 4) (hpk : ∀ x ∈ ps, I64 x) (hst : st ≤ 1000) (hse : se ≤ 65536) (hpa : pa ≤ 16) :
    ∃ a1 a2 a3 a4 a5 a6, JR s a.length 0 t G ps.length ps st se pa a1 a2 a3 a4 a5 a6 (a.length + (jobB t G ps st se pa).length) 0 0 0 0 0 0 0 := by
  unfold jobB at h ⊢
  generalize hT : textB t.data.toList = T at h
  have k1 := text_atJ (s := s) (t := t) (a := a) (c := grB G ++ (numB ps.length ++ (ps.flatMap sgB ++ (numB st ++ (numB se ++ (numB pa ++ c)))))) (by rw [h, hT]; simp only [List.append_assoc]) ht
  rw [hT] at k1
  have k2 := rdG_enc (s := s) (G := G) (a := a ++ T) (c := numB ps.length ++ (ps.flatMap sgB ++ (numB st ++ (numB se ++ (numB pa ++ c))))) (by rw [h]; simp only [List.append_assoc]) hok hc
  have k3 := count_at (s := s) (a := a ++ T ++ grB G) (n := ps.length) (most := 4) (c := ps.flatMap sgB ++ (numB st ++ (numB se ++ (numB pa ++ c)))) (by rw [h]; simp only [List.append_assoc]) hp (by decide)
  have k4 := ps_at ps (s := s) (a := a ++ T ++ grB G ++ numB ps.length) (c := numB st ++ (numB se ++ (numB pa ++ c))) (L := []) (by rw [h]; simp only [List.append_assoc]) hpk
  have k5 := count_at (s := s) (a := a ++ T ++ grB G ++ numB ps.length ++ ps.flatMap sgB) (n := st) (most := 1000) (c := numB se ++ (numB pa ++ c)) (by rw [h]; simp only [List.append_assoc]) hst (by decide)
  have k6 := count_at (s := s) (a := a ++ T ++ grB G ++ numB ps.length ++ ps.flatMap sgB ++ numB st) (n := se) (most := 65536) (c := numB pa ++ c) (by rw [h]; simp only [List.append_assoc]) hse (by decide)
  have k7 := count_at (s := s) (a := a ++ T ++ grB G ++ numB ps.length ++ ps.flatMap sgB ++ numB st ++ numB se) (n := pa) (most := 16) (c := c) (by rw [h]; simp only [List.append_assoc]) hpa (by decide)
  rw [List.nil_append] at k4
  refine ⟨_, _, _, _, _, _, k1, k2, k3, k4, k5, k6, ?_⟩
  have e : a.length + (T ++ grB G ++ numB ps.length ++ ps.flatMap sgB ++ numB st ++ numB se ++ numB pa).length = (a ++ T ++ grB G ++ numB ps.length ++ ps.flatMap sgB ++ numB st ++ numB se ++ numB pa).length := by
    simp only [List.length_append]; omega
  rw [e]
  exact k7
/-- The error behind all of a job. -/
def jErr (e7 : Int) (t : ByteArray) (G : List Vx) (ps : List Int) (st se pa : Nat) : Int := rdFail e7 (jobN t G ps st se pa)
/-- What a job that may be has. -/
structure JOk (t : ByteArray) (G : List Vx) (ps : List Int) (st se pa : Int) : Prop where
  known : allS t = true
  chk : chk G = 0
  len : ps.length ≤ 4
  st : 1 ≤ st ∧ st ≤ 1000
  se : 0 ≤ se ∧ se ≤ 65536
  pa : 1 ≤ pa ∧ pa ≤ 16
theorem jobN_ok {t : ByteArray} {G : List Vx} {ps : List Int} {st se pa : Int} (h : jobN t G ps st se pa = 0) : JOk t G ps st se pa := by
  unfold jobN at h
  split at h
  · exact absurd h (by decide)
  rename_i h1
  split at h
  · rename_i h2; exact absurd h h2
  rename_i h2
  split at h
  · exact absurd h (by decide)
  rename_i h3
  split at h
  · rename_i h4; exact absurd h h4
  split at h
  · rename_i h5
    exact ⟨by simpa using h1, by omega, by omega, h5.1, h5.2.1, h5.2.2⟩
  · exact absurd h (by decide)
theorem known_size {t : ByteArray} (h : allS t = true) : t.size ≤ 9 := by
  unfold allS at h
  obtain ⟨y, hy, he⟩ := List.any_eq_true.1 h
  have e : y.toList = t.toList := by simpa using he
  have hl : y.toList.length = t.toList.length := by rw [e]
  have hs : ∀ y ∈ kNm, y.size ≤ 9 := by decide
  have := hs y hy
  have h3 : t.toList.length = t.size := by rw [ByteArray.toList_eq]; simp
  have h4 : y.toList.length = y.size := by rw [ByteArray.toList_eq]; simp
  omega
end Go.Proofs.YtidghoipmggklaaGreat
end
