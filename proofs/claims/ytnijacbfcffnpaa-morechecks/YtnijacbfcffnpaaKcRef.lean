/- The document's Check of parameters, at the five programs of this layer. -/
import Derived.Test.YtnijacbfcffnpaaKcSource
import Derived.Test.YtnijacbfcffnpaaGrAll
import Derived.Test.YtnijacbfcffnpaaGrRefC
namespace Go.Proofs.Ytnijacbfcffnpaa
open Go.RowKit
def kNm : List ByteArray := [⟨#[98, 102, 115]⟩, ⟨#[99, 99]⟩, ⟨#[99, 111, 108, 111, 114, 115]⟩, ⟨#[100, 101, 103, 114, 101, 101]⟩, ⟨#[107, 99, 111, 114, 101]⟩, ⟨#[108, 97, 98, 101, 108, 115]⟩, ⟨#[109, 97, 116, 99, 104, 105, 110, 103]⟩, ⟨#[112, 97, 103, 101, 114, 97, 110, 107]⟩, ⟨#[115, 115, 115, 112]⟩, ⟨#[116, 114, 105, 97, 110, 103, 108, 101, 115]⟩]
theorem kc_row {w W : World} (L : List ByteArray) (h : w.alloc (.cells (L.map Value.string).toArray 9) = W) : (∀ j (hj : j < L.length), W.cell? ⟨w.heap.size, j, none⟩ = some (.string L[j])) ∧ Below w.heap.size w W := by
  have hh : W.heap[w.heap.size]? = some (.cells (L.map Value.string).toArray 9 (0, 0)) := by rw [← h]; exact heap_alloc_new _ _
  refine ⟨fun j hj => ?_, by rw [← h]; exact (Below.refl _ _).alloc (Nat.le_refl _) _⟩
  simp [World.cell?, hh, hj]
set_option maxRecDepth 100000 in
theorem kc_names (w : World) : Calls Try.prog 31 #[] w fun r w' => r = .returned (.slice (some ⟨w.heap.size, 0, none⟩) 10 10) ∧ w' = w.alloc (.cells (kNm.map Value.string).toArray 9) := by
  go_enter Try.func31, Try.ntmps31
  go_wp2
  go_ret
  exact ⟨rfl, rfl⟩
set_option maxRecDepth 100000 in
set_option maxHeartbeats 1000000 in
theorem rknown_any (s : ByteArray) (w : World) (hs : ∃ y ∈ kNm, (y.toList == s.toList) = true) : Calls Try.prog 13 #[.string s] w fun r w' => r = .returned (.bool true) ∧ Below w.heap.size w w' := by
  have HS : Hid _ := hs
  clear hs
  go_enter Try.func13, Try.ntmps13
  go_wp2_with (go_at_call 31; refine (kc_names _).mono ?_; rintro r w1 ⟨rfl, hw1⟩; obtain ⟨hc1, hb1⟩ := kc_row kNm hw1.symm; have HC1 : Hid _ := hc1; have HB1 : Hid _ := hb1; clear hw1 hc1 hb1)
  go_loopw [2, 4] (fun _ i wr => ∃ j : Nat, j ≤ 10 ∧ i = .int .i64 j ∧ Hid (∀ y ∈ kNm.take j, (y.toList == s.toList) = false) ∧ wr = w1) (fun _ i _ => 10 - (intOf i).toNat)
  case atStart => exact ⟨0, Nat.zero_le _, rfl, (fun y hy => (by simp at hy)), rfl⟩
  case round =>
    obtain ⟨j, hj, rfl, HF, rfl⟩ := hrel
    by_cases hlt : j < 10
    · have c1 := HC1.out j hlt
      have HN : Hid (∀ y ∈ kNm.take (j + 1), y ∈ kNm.take j ∨ y = kNm[j]'hlt) := fun y hy => by
        rw [List.take_succ_eq_append_getElem hlt] at hy
        rcases List.mem_append.1 hy with hy | hy
        · exact Or.inl hy
        · exact Or.inr (by simpa using hy)
      generalize kNm[j]'hlt = y at c1 HN
      cases hy : (y.toList == s.toList)
      · have HY : Hid _ := hy
        go_wp2
        go_roundw
        case rel =>
          refine ⟨j + 1, by omega, by go_num, fun z hz => ?_, by first | rfl | trivial⟩
          rcases HN.out z hz with h | rfl
          · exact HF.out z h
          · exact HY.out
        case measure => simp [intOf]; omega
      · go_wp2
        go_ret
        exact ⟨rfl, HB1.out⟩
    · obtain rfl : j = 10 := by omega
      exfalso
      obtain ⟨y, hy, h1⟩ := HS.out
      have := HF.out y (by rw [List.take_of_length_le (by decide)]; exact hy)
      rw [h1] at this
      cases this
/-- Which parameters a program allows. -/
def checkN (s : ByteArray) (G : List Vx) (L : List Int) : Int := if isBfs s then srcN G L else if isSp s then (if negE G then 71 else srcN G L) else if isPr s then turnN L else if isCc s || isDeg s then noneN L else 70
theorem negE_no {G : List Vx} (h : ∀ x ∈ evs G, ¬ x.2.w < 0) : negE G = false := by
  unfold negE
  rw [List.any_eq_false]
  intro x hx
  simpa using h x hx
theorem negE_yes {G : List Vx} {x : Int × Ed} (hx : x ∈ evs G) (h : x.2.w < 0) : negE G = true := by
  unfold negE
  rw [List.any_eq_true]
  exact ⟨x, hx, by simpa using h⟩
theorem rfind_n {w : World} {P : Nat → Prop} {ao : Option Addr} {G : List Vx} (n cap : Nat) (x : Int) (hn : n = G.length) (h : VxAt w P ao G) (hl : G.length ≤ 256) :
    Calls Try.prog 27 #[.slice ao n cap, .int .i64 x] w fun r w' => r = .returned (.tuple #[.int .i64 (findN (ids G) x), .bool (foundB (ids G) x)]) ∧ Below w.heap.size w w' := by
  subst hn
  exact reffind_any cap x h (by omega)
section
variable {w : World} {P : Nat → Prop} {ao po : Option Addr} {s : ByteArray} {G : List Vx} {L : List Int} {n cap pn pc : Nat}
set_option maxRecDepth 100000 in
set_option maxHeartbeats 2000000 in
theorem rcheck_bfs (h1 : (s.toList == [98, 102, 115]) = true) (hn : n = G.length) (hp : pn = L.length) (hG : VxAt w P ao G) (hL : IsAt w po L) (hl : G.length ≤ 256) :
    Calls Try.prog 15 #[.string s, .slice ao n cap, .slice po pn pc] w fun r w' => r = .returned (.int .i64 (srcN G L)) ∧ Below w.heap.size w w' := by
  have e := eq_of_beq h1
  have h2 : (s.toList == [115, 115, 115, 112]) = false := by rw [e]; rfl
  by_cases hp1 : pn = 1
  · obtain ⟨b, off, rfl, hc⟩ := hL.one (by omega)
    have HT : Hid (srcN G L = if foundB (ids G) (L.getD 0 0) = true then 0 else 71) := by
      show _ = _
      unfold srcN
      have : L.length = 1 := by omega
      simp [this]
    generalize L.getD 0 0 = x at hc HT
    subst hp1
    rw [HT.out]
    obtain ⟨fb, hfb⟩ : ∃ fb, foundB (ids G) x = fb := ⟨_, rfl⟩
    have HF : Hid _ := hfb
    rw [hfb]
    have HN : Hid _ := hn
    have HG : Hid _ := hG
    clear hn hp hL hG HT hfb e
    go_enter Try.func15, Try.ntmps15
    cases fb
    · go_wp2_with (go_at_call 27; refine (rfind_n n cap x HN.out HG.out hl).mono ?_; rintro r w1 ⟨rfl, hb1⟩; rw [HF.out]; have HB1 : Hid _ := hb1; clear hb1)
      go_ret
      exact ⟨by simp, HB1.out⟩
    · go_wp2_with (go_at_call 27; refine (rfind_n n cap x HN.out HG.out hl).mono ?_; rintro r w1 ⟨rfl, hb1⟩; rw [HF.out]; have HB1 : Hid _ := hb1; clear hb1)
      go_loopw [6, 10, 11] (fun _ i _ wr => i = .int .i64 0 ∧ wr = w1) (fun _ _ _ _ => 0)
      case atStart => exact ⟨rfl, rfl⟩
      case round =>
        obtain ⟨rfl, rfl⟩ := hrel
        by_cases h0 : 0 < n
        · go_wp2
          go_ret
          exact ⟨by simp, HB1.out⟩
        · go_wp2
          go_ret
          exact ⟨by simp, HB1.out⟩
  · have HT : Hid (srcN G L = 71) := by
      show _ = _
      unfold srcN
      rw [if_neg (by omega)]
    rw [HT.out]
    have hb : ((pn : Int) != 1) = true := by simp; omega
    clear hn hp hL hG HT e
    go_enter Try.func15, Try.ntmps15
    go_wp2
    all_goals first | (exfalso; omega) | (go_ret; exact ⟨rfl, Below.refl _ _⟩)
set_option maxRecDepth 100000 in
set_option maxHeartbeats 2000000 in
theorem rcheck_pr (h4 : (s.toList == [112, 97, 103, 101, 114, 97, 110, 107]) = true) (hp : pn = L.length) (hL : IsAt w po L) :
    Calls Try.prog 15 #[.string s, .slice ao n cap, .slice po pn pc] w fun r w' => r = .returned (.int .i64 (turnN L)) ∧ Below w.heap.size w w' := by
  have e := eq_of_beq h4
  have h1 : (s.toList == [98, 102, 115]) = false := by rw [e]; rfl
  have h2 : (s.toList == [115, 115, 115, 112]) = false := by rw [e]; rfl
  by_cases hp1 : pn = 1
  · obtain ⟨b, off, rfl, hc⟩ := hL.one (by omega)
    have HT : Hid (turnN L = if 0 ≤ L.getD 0 0 ∧ L.getD 0 0 ≤ 100 then 0 else 71) := by
      show _ = _
      unfold turnN
      have : L.length = 1 := by omega
      simp [this]
    generalize L.getD 0 0 = x at hc HT
    subst hp1
    rw [HT.out]
    clear hp hL HT e
    go_enter Try.func15, Try.ntmps15
    by_cases g0 : x < 0
    · go_wp2
      all_goals first | (exfalso; omega) | (go_ret; exact ⟨by first | rfl | (rw [if_neg (by omega)]; rfl), Below.refl _ _⟩)
    · by_cases g1 : 100 < x
      · go_wp2
        all_goals first | (exfalso; omega) | (go_ret; exact ⟨by first | rfl | (rw [if_neg (by omega)]; rfl), Below.refl _ _⟩)
      · go_wp2
        all_goals first | (exfalso; omega) | (go_ret; exact ⟨by first | rfl | (rw [if_pos (by omega)]; rfl), Below.refl _ _⟩)
  · have HT : Hid (turnN L = 71) := by
      show _ = _
      unfold turnN
      rw [if_neg (by omega)]
    rw [HT.out]
    have hb : ((pn : Int) != 1) = true := by simp; omega
    clear hp hL HT e
    go_enter Try.func15, Try.ntmps15
    go_wp2
    all_goals first | (exfalso; omega) | (go_ret; exact ⟨rfl, Below.refl _ _⟩)
set_option maxRecDepth 100000 in
set_option maxHeartbeats 2000000 in
theorem rcheck_none (h1 : (s.toList == [98, 102, 115]) = false) (h2 : (s.toList == [115, 115, 115, 112]) = false) (h4 : (s.toList == [112, 97, 103, 101, 114, 97, 110, 107]) = false) (h5 : (s.toList == [108, 97, 98, 101, 108, 115]) = false) (h6 : (s.toList == [107, 99, 111, 114, 101]) = false) (hk : ∃ y ∈ kNm, (y.toList == s.toList) = true) (hp : pn = L.length) :
    Calls Try.prog 15 #[.string s, .slice ao n cap, .slice po pn pc] w fun r w' => r = .returned (.int .i64 (noneN L)) ∧ Below w.heap.size w w' := by
  have HK : Hid _ := hk
  unfold noneN
  rw [← hp]
  by_cases h0 : pn = 0
  · subst h0
    clear hp hk
    go_enter Try.func15, Try.ntmps15
    go_wp2_with (go_at_call 13; refine (rknown_any s _ HK.out).mono ?_; rintro r w1 ⟨rfl, hb1⟩; have HB1 : Hid _ := hb1; clear hb1)
    go_ret
    exact ⟨by simp, HB1.out⟩
  · have hb : ((pn : Int) != 0) = true := by simp; omega
    clear hp hk
    go_enter Try.func15, Try.ntmps15
    go_wp2_with (go_at_call 13; refine (rknown_any s _ HK.out).mono ?_; rintro r w1 ⟨rfl, hb1⟩; have HB1 : Hid _ := hb1; clear hb1)
    all_goals first | (exfalso; omega) | (go_ret; exact ⟨by simp, HB1.out⟩)
set_option maxRecDepth 100000 in
set_option maxHeartbeats 4000000 in
theorem rcheck_sp (h2 : (s.toList == [115, 115, 115, 112]) = true) (hn : n = G.length) (hp : pn = L.length) (hG : VxAt w P ao G) (hok : ∀ v ∈ G, v.ok) (hL : IsAt w po L) (hl : G.length ≤ 256) :
    Calls Try.prog 15 #[.string s, .slice ao n cap, .slice po pn pc] w fun r w' => r = .returned (.int .i64 (if negE G then 71 else srcN G L)) ∧ Below w.heap.size w w' := by
  have e := eq_of_beq h2
  obtain ⟨R, hR⟩ : ∃ R : Int, (if negE G then 71 else srcN G L) = R := ⟨_, rfl⟩
  have HR1 : Hid (negE G = true → R = 71) := fun h => by rw [← hR, h]; rfl
  have HR0 : Hid (negE G = false → R = srcN G L) := fun h => by rw [← hR, h]; rfl
  rw [hR]
  clear hR
  have h1 : (s.toList == [98, 102, 115]) = false := by rw [e]; rfl
  by_cases hp1 : pn = 1
  · obtain ⟨b, off, rfl, hc⟩ := hL.one (by omega)
    have HT : Hid (srcN G L = if foundB (ids G) (L.getD 0 0) = true then 0 else 71) := by
      show _ = _
      unfold srcN
      have : L.length = 1 := by omega
      simp [this]
    generalize L.getD 0 0 = x at hc HT
    subst hp1
    obtain ⟨fb, hfb⟩ : ∃ fb, foundB (ids G) x = fb := ⟨_, rfl⟩
    rw [hfb] at HT
    rw [HT.out] at HR0
    have HF : Hid _ := hfb
    have HN : Hid _ := hn
    have HG : Hid _ := hG
    have HOk : Hid _ := hok
    have hn6 : n ≤ 256 := by omega
    clear hn hp hL hG HT hfb e hok
    go_enter Try.func15, Try.ntmps15
    cases fb
    · obtain rfl : R = 71 := by
        cases hN : negE G
        · exact HR0.out hN
        · exact HR1.out hN
      go_wp2_with (go_at_call 27; refine (rfind_n n cap x HN.out HG.out hl).mono ?_; rintro r w1 ⟨rfl, hb1⟩; rw [HF.out]; have HB1 : Hid _ := hb1; clear hb1)
      go_ret
      exact ⟨rfl, HB1.out⟩
    · go_wp2_with (go_at_call 27; refine (rfind_n n cap x HN.out HG.out hl).mono ?_; rintro r w1 ⟨rfl, hb1⟩; rw [HF.out]; have HB1 : Hid _ := hb1; have HG1 : Hid _ := kc_new HG.out hb1; clear hb1)
      go_loopw [6, 10, 11] (fun _ i _ wr => ∃ k : Nat, k ≤ n ∧ i = .int .i64 k ∧ noNeg (evs (G.take k)) ∧ wr = w1) (fun _ i _ _ => n - (intOf i).toNat)
      case atStart => exact ⟨0, Nat.zero_le _, rfl, (fun x hx => (by simp [evs] at hx)), rfl⟩
      case round =>
        obtain ⟨k, hk, rfl, HNo, rfl⟩ := hrel
        by_cases hlt : k < n
        · have hkG : k < G.length := by have := HN.out; omega
          obtain ⟨b', off', rfl, hP, hcs⟩ := HG1.out (by omega)
          obtain ⟨eo, ec, c0, c1, c2, hE⟩ := hcs k hkG
          have HS : Hid _ := evs_snoc G k hkG
          have HM : Hid (∀ e ∈ G[k].es, (G[k].id, e) ∈ evs G) := fun e he => by
            unfold evs
            exact List.mem_flatMap.2 ⟨G[k], List.getElem_mem hkG, List.mem_map.2 ⟨e, he, rfl⟩⟩
          have hlen : G[k].es.length ≤ 9223372036854775807 := Nat.le_trans (HOk.out _ (List.getElem_mem hkG)).len (by decide)
          have HE : Hid _ := hE
          generalize G[k] = y at c0 c1 c2 HS HM HE hlen
          have HNk : Hid (noNeg (evs (G.take k))) := HNo
          clear hcs hE HNo
          go_wp2
          go_loopw [6, 11] (fun _ j wx => ∃ m : Nat, m ≤ y.es.length ∧ j = .int .i64 m ∧ noNeg ((y.es.take m).map fun e => (y.id, e)) ∧ wx = wr) (fun _ j _ => y.es.length - (intOf j).toNat)
          case atStart => exact ⟨0, Nat.zero_le _, rfl, (fun x hx => (by simp at hx)), rfl⟩
          case round =>
            obtain ⟨m, hm, rfl, HNm, rfl⟩ := hrel
            by_cases hml : m < y.es.length
            · obtain ⟨be, oe, rfl, _, hce⟩ := HE.out (by omega)
              obtain ⟨_, d1⟩ := hce m hml
              have HSm : Hid _ := take_snoc_map hml y.id
              have HMm : Hid _ := HM.out y.es[m] (List.getElem_mem hml)
              generalize y.es[m] = z at d1 HSm HMm
              have HNm2 : Hid (noNeg ((y.es.take m).map fun e => (y.id, e))) := HNm
              clear hce HNm
              by_cases hz : z.w < 0
              · obtain rfl : R = 71 := HR1.out (negE_yes HMm.out hz)
                have hzb : decide (z.w < 0) = true := decide_eq_true hz
                go_wp2
                all_goals first | (exfalso; omega) | (go_ret; exact ⟨rfl, HB1.out⟩)
              · go_wp2
                go_roundw
                case rel =>
                  refine ⟨m + 1, by omega, by go_num, ?_, by first | rfl | trivial⟩
                  rw [HSm.out]
                  intro q hq
                  rcases List.mem_append.1 hq with hq | hq
                  · exact HNm2.out q hq
                  · obtain rfl : q = (y.id, z) := by simpa using hq
                    exact by first | exact hz | exact Int.not_lt.2 hz
                case measure => simp [intOf]; omega
            · obtain rfl : m = y.es.length := by omega
              rw [List.take_length] at HNm
              have HNm2 : Hid (noNeg (y.es.map fun e => (y.id, e))) := HNm
              clear HNm
              go_wp2
              go_roundw
              case rel =>
                refine ⟨k + 1, by omega, by go_num, ?_, by first | rfl | trivial⟩
                rw [HS.out]
                intro q hq
                rcases List.mem_append.1 hq with hq | hq
                · exact HNk.out q hq
                · exact HNm2.out q hq
              case measure => simp [intOf]; omega
        · obtain rfl : k = n := by omega
          obtain rfl : R = 0 := HR0.out (negE_no (by rw [HN.out, List.take_length] at HNo; exact HNo))
          clear HNo
          go_wp2
          go_ret
          exact ⟨rfl, HB1.out⟩
  · have HT : Hid (srcN G L = 71) := by
      show _ = _
      unfold srcN
      rw [if_neg (by omega)]
    obtain rfl : R = 71 := by
      cases hN : negE G
      · rw [HR0.out hN, HT.out]
      · exact HR1.out hN
    have hb : ((pn : Int) != 1) = true := by simp; omega
    clear hn hp hL hG HT e hok
    go_enter Try.func15, Try.ntmps15
    go_wp2
    all_goals first | (exfalso; omega) | (go_ret; exact ⟨rfl, Below.refl _ _⟩)
end
end Go.Proofs.Ytnijacbfcffnpaa
