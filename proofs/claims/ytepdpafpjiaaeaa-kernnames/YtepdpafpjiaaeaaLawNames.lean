/- The walk of the statement on the programs' names. -/
import Derived.Test.YtepdpafpjiaaeaaKnCut
import Derived.Test.YtepdpafpjiaaeaaKnNone
import Derived.Test.YtepdpafpjiaaeaaKnIs
import Derived.Test.YtepdpafpjiaaeaaKnEq
import Derived.Deep.CutBlock
namespace Go.Proofs.Ytepdpafpjiaaeaa
open Go.RowKit
def nmL : List ByteArray := [⟨#[98, 102, 115]⟩, ⟨#[99, 99]⟩, ⟨#[99, 111, 108, 111, 114, 115]⟩, ⟨#[100, 101, 103, 114, 101, 101]⟩, ⟨#[107, 99, 111, 114, 101]⟩, ⟨#[108, 97, 98, 101, 108, 115]⟩, ⟨#[109, 97, 116, 99, 104, 105, 110, 103]⟩, ⟨#[112, 97, 103, 101, 114, 97, 110, 107]⟩, ⟨#[115, 115, 115, 112]⟩, ⟨#[116, 114, 105, 97, 110, 103, 108, 101, 115]⟩]
def fvL : List ByteArray := [⟨#[98, 102, 115]⟩, ⟨#[115, 115, 115, 112]⟩, ⟨#[100, 101, 103, 114, 101, 101]⟩, ⟨#[112, 97, 103, 101, 114, 97, 110, 107]⟩, ⟨#[99, 99]⟩]
/-- A row of texts, just laid. -/
theorem txt_row {w W : World} (L : List ByteArray) (h : w.alloc (.cells (L.map Value.string).toArray 9) = W) : (∀ j (hj : j < L.length), W.cell? ⟨w.heap.size, j, none⟩ = some (.string L[j])) ∧ Below w.heap.size w W := by
  have hh : W.heap[w.heap.size]? = some (.cells (L.map Value.string).toArray 9 (0, 0)) := by rw [← h]; exact heap_alloc_new _ _
  refine ⟨fun j hj => ?_, by rw [← h]; exact one_newK _ _⟩
  simp [World.cell?, hh, hj]
set_option maxRecDepth 100000 in
theorem progs_any (w : World) : Calls Try.prog 18 #[] w fun r w' => r = .returned (.slice (some ⟨w.heap.size, 0, none⟩) 10 10) ∧ w' = w.alloc (.cells (nmL.map Value.string).toArray 9) := by
  go_enter Try.func18, Try.ntmps18
  go_wp2
  go_ret
  exact ⟨rfl, rfl⟩
set_option maxRecDepth 100000 in
theorem names_any (w : World) : Calls Try.prog 19 #[] w fun r w' => r = .returned (.slice (some ⟨w.heap.size, 0, none⟩) 10 10) ∧ w' = w.alloc (.cells (nmL.map Value.string).toArray 9) := by
  go_enter Try.func19, Try.ntmps19
  go_wp2
  go_ret
  exact ⟨rfl, rfl⟩
set_option maxRecDepth 100000 in
theorem five_any (w : World) : Calls Try.prog 9 #[] w fun r w' => r = .returned (.slice (some ⟨w.heap.size, 0, none⟩) 5 5) ∧ w' = w.alloc (.cells (fvL.map Value.string).toArray 9) := by
  go_enter Try.func9, Try.ntmps9
  go_wp2
  go_ret
  exact ⟨rfl, rfl⟩
theorem none_of {s : ByteArray} (h : ∀ y ∈ fvL, (y.toList == s.toList) = false) : noneOf s := by
  have h0 := h ⟨#[98, 102, 115]⟩ (by simp [fvL])
  rw [show (⟨#[98, 102, 115]⟩ : ByteArray).toList = [98, 102, 115] from by kernel_rfl] at h0
  have h1 := h ⟨#[115, 115, 115, 112]⟩ (by simp [fvL])
  rw [show (⟨#[115, 115, 115, 112]⟩ : ByteArray).toList = [115, 115, 115, 112] from by kernel_rfl] at h1
  have h2 := h ⟨#[100, 101, 103, 114, 101, 101]⟩ (by simp [fvL])
  rw [show (⟨#[100, 101, 103, 114, 101, 101]⟩ : ByteArray).toList = [100, 101, 103, 114, 101, 101] from by kernel_rfl] at h2
  have h3 := h ⟨#[112, 97, 103, 101, 114, 97, 110, 107]⟩ (by simp [fvL])
  rw [show (⟨#[112, 97, 103, 101, 114, 97, 110, 107]⟩ : ByteArray).toList = [112, 97, 103, 101, 114, 97, 110, 107] from by kernel_rfl] at h3
  have h4 := h ⟨#[99, 99]⟩ (by simp [fvL])
  rw [show (⟨#[99, 99]⟩ : ByteArray).toList = [99, 99] from by kernel_rfl] at h4
  have sym : ∀ a b : List UInt8, (a == b) = false → (b == a) = false := fun a b hab => by
    rw [beq_eq_false_iff_ne] at hab ⊢
    exact fun e => hab e.symm
  exact ⟨sym _ _ h0, sym _ _ h4, sym _ _ h2, sym _ _ h3, sym _ _ h1⟩
set_option maxRecDepth 100000 in
set_option maxHeartbeats 2000000 in
theorem law_names {w : World} {P : Nat → Prop} {st id va ma : Int} {eo mo po : Option Addr} {en ec mn mc pn pc : Nat} {ha ag0 ag1 ag2 ag3 ag4 ag5 ag6 ag7 ag8 ag9 : Value} (s : ByteArray) (M : List Msg) (hm : mn = M.length) (hM : KsAt w P mo M) (hMok : ∀ m ∈ M, m.ok) (hmc : M.length ≤ mc) (hec : en ≤ ec) (heo : eo = none → ec = 0) (hva : I64 va)
    (hone : ha.oneCell' = true ∧ (ag0.oneCell' = true ∧ ag1.oneCell' = true ∧ ag2.oneCell' = true ∧ ag3.oneCell' = true ∧ ag4.oneCell' = true) ∧ (ag5.oneCell' = true ∧ ag6.oneCell' = true ∧ ag7.oneCell' = true ∧ ag8.oneCell' = true ∧ ag9.oneCell' = true)) :
    Calls Try.prog 4 #[.string s, (.agg #[.int .i64 st, .int .i64 id, .int .i64 va, .slice eo en ec, ha, .slice mo mn mc, ag0, ag1, ag2, ag3, ag4, ag5, ag6, ag7, ag8, ag9, .int .i64 ma, .slice po pn pc])] w fun e w' => e = .returned (.bool true) ∧ Below w.heap.size w w' := by
  obtain ⟨W0, hW0⟩ : ∃ W0, w.alloc (.cells #[.int .i64 st, .int .i64 id, .int .i64 va, .slice eo en ec, ha, .slice mo mn mc, ag0, ag1, ag2, ag3, ag4, ag5, ag6, ag7, ag8, ag9, .int .i64 ma, .slice po pn pc] 49) = W0 := ⟨_, rfl⟩
  have hB0 : Below w.heap.size w W0 := by rw [← hW0]; exact one_newK _ _
  have HI0 : Hid (InBox W0 w.heap.size #[.int .i64 st, .int .i64 id, .int .i64 va, .slice eo en ec, ha, .slice mo mn mc, ag0, ag1, ag2, ag3, ag4, ag5, ag6, ag7, ag8, ag9, .int .i64 ma, .slice po pn pc]) := by rw [← hW0]; exact InBox.made _ _
  have HC : Hid (∀ W, Below w.heap.size w W → Calls Try.prog 21 #[(.agg #[.int .i64 st, .int .i64 id, .int .i64 va, .slice eo en ec, ha, .slice mo mn mc, ag0, ag1, ag2, ag3, ag4, ag5, ag6, ag7, ag8, ag9, .int .i64 ma, .slice po pn pc])] W fun r w' => ∃ (st' va' : Int) (eo' mo' po' : Option Addr) (en' ec' mn' mc' pn' pc' : Nat), r = .returned (.agg #[.int .i64 st', .int .i64 id, .int .i64 va', .slice eo' en' ec', ha, .slice mo' mn' mc', ag0, ag1, ag2, ag3, ag4, ag5, ag6, ag7, ag8, ag9, .int .i64 ma, .slice po' pn' pc']) ∧ Below W.heap.size W w') := fun W hb => cut_any M hm (hM.new hb) hMok hmc hec heo hva hone
  have HB0 : Hid _ := hB0
  clear hB0 hm hM hMok hmc hec heo hva hone
  go_enter Try.func4, Try.ntmps4
  go_upto_block 0 with (first
    | (go_at_call 18; refine (progs_any _).mono ?_; rintro r w1 ⟨rfl, hw1⟩; obtain ⟨hc1, hb1⟩ := txt_row nmL hw1.symm; have HC1 : Hid _ := hc1; have HB1 : Hid _ := hb1; clear hw1 hc1 hb1)
    | (go_at_call 19; refine (names_any _).mono ?_; rintro r w2 ⟨rfl, hw2⟩; obtain ⟨hc2, hb2⟩ := txt_row nmL hw2.symm; have HC2 : Hid _ := hc2; have HB2 : Hid _ := hb2; clear hw2 hc2 hb2)
    | (go_at_call 8; refine (awake7 _).mono ?_; rintro r w3 ⟨rfl, hb3⟩; have HB3 : Hid _ := hb3; clear hb3))
  have HX1 : Hid (∀ j (hj : j < 10), w3.cell? ⟨W0.heap.size, j, none⟩ = some (.string (nmL[j]'hj))) := fun j hj => by
    have h1 := HC1.out j hj
    have h2 := (HB2.out.cell (p := ⟨W0.heap.size, j, none⟩) (lt_cell h1)).trans h1
    exact (HB3.out.cell (p := ⟨W0.heap.size, j, none⟩) (lt_cell h2)).trans h2
  have HX2 : Hid (∀ j (hj : j < 10), w3.cell? ⟨w1.heap.size, j, none⟩ = some (.string (nmL[j]'hj))) := fun j hj => by
    have h1 := HC2.out j hj
    exact (HB3.out.cell (p := ⟨w1.heap.size, j, none⟩) (lt_cell h1)).trans h1
  have hb02 := HB1.out.trans (HB2.out.mono HB1.out.size)
  have hb03 := hb02.trans (HB3.out.mono hb02.size)
  have HI3 : Hid _ := InBox.new HI0.out hb03
  have HBW : Hid _ := HB0.out.trans (hb03.mono HB0.out.size)
  clear hb02 hb03 HB1 HB2 HB3 HC1 HC2 HI0
  go_cut [7] (fun _ wx => Below w3.heap.size w3 wx)
  case first =>
    go_wp2
    go_loopw [4, 7] (fun _ i wr => ∃ j : Nat, j ≤ 10 ∧ i = .int .i64 j ∧ Below w3.heap.size w3 wr) (fun _ i _ => 10 - (intOf i).toNat)
    case atStart => exact ⟨0, Nat.zero_le _, rfl, Below.refl _ _⟩
    case round =>
      obtain ⟨j, hj, rfl, hb⟩ := hrel
      by_cases hlt : j < 10
      · have c1 := (hb.cell (p := ⟨W0.heap.size, j, none⟩) (lt_cell (HX1.out j hlt))).trans (HX1.out j hlt)
        have c2 := (hb.cell (p := ⟨w1.heap.size, j, none⟩) (lt_cell (HX2.out j hlt))).trans (HX2.out j hlt)
        generalize nmL[j]'hlt = y at c1 c2
        have HBr : Hid _ := hb
        clear hb
        go_wp2
        go_quiet (fail)
        go_wp2
        go_roundw
        case rel => exact ⟨j + 1, by omega, by go_num, k_drewN HBr.out _⟩
        case measure => simp [intOf]; omega
      · have HBr : Hid _ := hb
        clear hb
        go_wp2
        go_meet
        exact HBr.out
  case rest =>
    have HI4 : Hid _ := InBox.new HI3.out hcut
    have HB4 : Hid _ := HBW.out.trans (hcut.mono HBW.out.size)
    clear hcut HX1 HX2 HI3 HBW HB0
    go_upto_block 2 with (go_at_call 9; refine (five_any _).mono ?_; rintro r w4 ⟨rfl, hw4⟩; obtain ⟨hc4, hb4⟩ := txt_row fvL hw4.symm; have HC4 : Hid _ := hc4; have HI5 : Hid _ := InBox.new HI4.out hb4; have HB5 : Hid _ := HB4.out.trans (hb4.mono HB4.out.size); clear hw4 hc4 hb4)
    go_wp2
    go_loopw [4, 9, 38] (fun _ _ i wr => ∃ j : Nat, j ≤ 5 ∧ i = .int .i64 j ∧ Hid (∀ y ∈ fvL.take j, (y.toList == s.toList) = false) ∧ wr = w4) (fun _ _ i _ => 5 - (intOf i).toNat)
    case atStart => exact ⟨0, Nat.zero_le _, rfl, (fun y hy => (by simp at hy)), rfl⟩
    case round =>
      obtain ⟨j, hj, rfl, HF, rfl⟩ := hrel
      by_cases hlt : j < 5
      · have c1 := HC4.out j hlt
        have HN : Hid (∀ y ∈ fvL.take (j + 1), y ∈ fvL.take j ∨ y = fvL[j]'hlt) := fun y hy => by
          rw [List.take_succ_eq_append_getElem hlt] at hy
          rcases List.mem_append.1 hy with hy | hy
          · exact Or.inl hy
          · exact Or.inr (by simpa using hy)
        generalize fvL[j]'hlt = y at c1 HN
        cases hy : (y.toList == s.toList)
        · have HY : Hid _ := hy
          go_wp2
          go_roundw
          case rel =>
            refine ⟨j + 1, by omega, by go_num, fun z hz => ?_, by first | rfl | trivial⟩
            rcases HN.out z hz with h | rfl
            · exact HF.out z h
            · exact HY.out
          case measure => simp [intOf]; omega
        · go_wp2
          go_ret
          exact ⟨rfl, HB5.out⟩
      · obtain rfl : j = 5 := by omega
        have HNo : Hid (noneOf s) := none_of HF.out
        have HC2 : Hid _ := HC
        clear HF
        go_wp2_with (first
          | (refine wpList_load_row rfl 49 _ rfl w.heap.size rfl 49 #[.int .i64 st, .int .i64 id, .int .i64 va, .slice eo en ec, ha, .slice mo mn mc, ag0, ag1, ag2, ag3, ag4, ag5, ag6, ag7, ag8, ag9, .int .i64 ma, .slice po pn pc] (0, 0) _ HI5.out Try.underlying49 rfl size_in ?_)
          | (go_at_call 21; refine (HC.out _ HB5.out).mono ?_; rintro r w5 ⟨st', va', eo', mo', po', en', ec', mn', mc', pn', pc', rfl, hb5⟩; have HB6 : Hid _ := HB5.out.trans (hb5.mono HB5.out.size); clear hb5)
          | (go_at_call 20; refine (step_none s HNo.out).mono ?_; rintro r w6 ⟨rfl, hb6⟩; have HB7 : Hid _ := HB6.out.trans (hb6.mono HB6.out.size); clear hb6)
          | (go_at_call 22; refine (is_70 _).mono ?_; rintro r w7 ⟨rfl, hb7⟩; have HB8 : Hid _ := HB7.out.trans (hb7.mono HB7.out.size); clear hb7))
        go_ret
        exact ⟨rfl, HB8.out⟩
end Go.Proofs.Ytepdpafpjiaaeaa
