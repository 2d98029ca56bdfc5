/- MutStands: who stands behind all requests. -/
import Derived.Test.YthnhmhjcpdomcaaLawMBoxM
import Derived.Test.YthnhmhjcpdomcaaLawMBoxM
import Derived.Test.YthnhmhjcpdomcaaLawMBoxM
import Derived.Test.YthnhmhjcpdomcaaMuSetM
import Derived.Test.YthnhmhjcpdomcaaLawMBoxM
import Derived.Test.YthnhmhjcpdomcaaMsR10tM
import Derived.Test.YthnhmhjcpdomcaaMsR10tM
import Derived.Test.YthnhmhjcpdomcaaMsR10tM
import Derived.Test.YthnhmhjcpdomcaaMsR16aM
import Derived.Test.YthnhmhjcpdomcaaMsR16aM
import Derived.Test.YthnhmhjcpdomcaaMsR16cM
import Derived.Test.YthnhmhjcpdomcaaMsR16cM
import Derived.Test.YthnhmhjcpdomcaaMsR24M
import Derived.Test.YthnhmhjcpdomcaaMsR24M
import Derived.Test.YthnhmhjcpdomcaaMsR24M
namespace Go.Proofs.Ythnhmhjcpdomcaa
open Go.RowKit Go.Sort
theorem cellGs {w : World} {g : Nat} {v : Value} (h : w.heap[g]? = some (.cells #[v] 24 (0, 0))) : w.cell? ⟨g, 0, none⟩ = some v := by simp [World.cell?, h]
set_option maxRecDepth 100000 in
set_option maxHeartbeats 1000000 in
/-- What may not be, or is too much. -/
theorem mst_bad {w : World} {P : Nat → Prop} {ao bo : Option Addr} (G : List Vx) (cap : Nat) (n cap2 : Nat) (h : VxAt w P ao G) (hok : ∀ v ∈ G, v.ok) (hl : G.length * 40 ≤ 140737488355328) (hz : chk G ≠ 0 ∨ 60 < n) :
    Calls Try.prog 8 #[.agg #[.slice ao G.length cap], .slice bo n cap2] w fun r w' => r = .returned (.bool true) ∧ Below w.heap.size w w' := by
  have HG : Hid (∀ W, Below w.heap.size w W → VxAt W P ao G) := fun W hb => h.new hb
  have HOk : Hid (∀ v ∈ G, v.ok) := hok
  have HS0 : Hid _ := OB.start w ao G.length cap
  clear h hok
  by_cases hc0 : chk G = 0
  · have hn : (60 : Int) < n := by rcases hz with e | e; · exact absurd hc0 e
                                   · omega
    have HC : Hid _ := hc0
    clear hz hc0
    go_enter Try.func8, Try.ntmps8
    go_wp2_with (first
      | (go_at_call 13; refine (ref_any G cap (HG.out _ HS0.out.low) HOk.out hl).mono ?_; rintro r w2 ⟨bo2, c2, rfl, hV2, hb2⟩; have hS2 := OB.new HS0.out hb2)
      | (go_at_call 14; refine (refcheck_any c2 hV2 (by omega) HOk.out).mono ?_; rintro r w3 ⟨rfl, hb3⟩; rw [HC.out]; have hS3 := hS2.new hb3)
      | (go_at_call 15; refine (awake6 _).mono ?_; rintro r w4 ⟨rfl, hb4⟩; have hS4 := hS3.new hb4))
    go_ret
    exact ⟨rfl, hS4.low⟩
  · obtain ⟨c, hc⟩ : ∃ c, chk G = c := ⟨_, rfl⟩
    have hc1 : (c != 0) = true := by rw [← hc]; simpa using hc0
    have HC : Hid _ := hc
    clear hz hc0 hc
    go_enter Try.func8, Try.ntmps8
    go_wp2_with (first
      | (go_at_call 13; refine (ref_any G cap (HG.out _ HS0.out.low) HOk.out hl).mono ?_; rintro r w2 ⟨bo2, c2, rfl, hV2, hb2⟩; have hS2 := OB.new HS0.out hb2)
      | (go_at_call 14; refine (refcheck_any c2 hV2 (by omega) HOk.out).mono ?_; rintro r w3 ⟨rfl, hb3⟩; rw [HC.out]; have hS3 := hS2.new hb3)
      | (go_at_call 15; refine (awake6 _).mono ?_; rintro r w4 ⟨rfl, hb4⟩; have hS4 := hS3.new hb4))
    go_ret
    exact ⟨rfl, hS4.low⟩
theorem goneB_put {A : List Mu} {m : Mu} : (fun y => if y = m.i then (goneB A m.i || (m.k == 2)) else goneB A y) = goneB (A ++ [m]) := by
  funext y
  unfold goneB
  rw [List.any_append]
  by_cases e : y = m.i
  · subst e; simp
  · have : (m.i == y) = false := by simpa using fun h => e h.symm
    simp [e, this]
theorem cameB_put {A : List Mu} {m : Mu} : (fun y => if y = m.i then (cameB A m.i || (m.k == 3)) else cameB A y) = cameB (A ++ [m]) := by
  funext y
  unfold cameB
  rw [List.any_append]
  by_cases e : y = m.i
  · subst e; simp
  · have : (m.i == y) = false := by simpa using fun h => e h.symm
    simp [e, this]
theorem stands_r9 {W0 : World} {A : Act} {b off n cap j mb mn : Nat} {x k : Int} {f : Int → Bool} {K : Act → World → Prop} {Q' : Exit → Act → World → Prop} (hsz : A.tmps.size = 229) (hA1 : A.eval (.tmp 1) = .slice (some ⟨b, off, none⟩) n cap) (hA7 : A.eval (.tmp 7) = .int .i64 j) (hAm : A.eval (.tmp 5) = .map (some mb)) (hj : j < n) (hi : W0.cell? ⟨b, off + j * 4 + 1, none⟩ = some (.int .i64 x)) (hk : W0.cell? ⟨b, off + j * 4, none⟩ = some (.int .i64 k)) (hx : I64 x) (hM : BMap W0 mb mn f) (hmn : mn < maxLen)
    (HK : ∀ X W, Fr W0 W (fun i => i = mb) → BMap W mb (mn + 1) (fun y => if y = x then (f x || k == 2) else f y) → K (puts A X [51, 52, 53, 54, 55, 56, 57, 58, 59, 60, 61, 62, 63, 64, 65, 66, 67, 68, 69, 70, 71]) W) :
    Code.wp Try.prog ((Try.f8.body.bind (regionJ 9)).getD .skip) (Exit.then K Q') A W0 := by
  cases hf : f x
  · exact stands_r9f hsz hA1 hA7 hAm hj hi hk hx hM hmn hf (fun X W h1 h2 => HK X W h1 (by rw [hf]; exact h2))
  · exact stands_r9t hsz hA1 hA7 hAm hj hi hx hM hmn hf (fun X W h1 h2 => HK X W h1 (by rw [hf]; exact h2))
theorem stands_r10 {W0 : World} {A : Act} {b off n cap j mb mn : Nat} {x k : Int} {f : Int → Bool} {Q : Exit → Act → World → Prop} (hsz : A.tmps.size = 229) (hA1 : A.eval (.tmp 1) = .slice (some ⟨b, off, none⟩) n cap) (hA7 : A.eval (.tmp 7) = .int .i64 j) (hAm : A.eval (.tmp 6) = .map (some mb)) (hj : j < n) (hi : W0.cell? ⟨b, off + j * 4 + 1, none⟩ = some (.int .i64 x)) (hk : W0.cell? ⟨b, off + j * 4, none⟩ = some (.int .i64 k)) (hx : I64 x) (hM : BMap W0 mb mn f) (hmn : mn < maxLen)
    (HK : ∀ X W, Fr W0 W (fun i => i = mb) → BMap W mb (mn + 1) (fun y => if y = x then (f x || k == 3) else f y) → Q .normal (puts A X [72, 73, 74, 75, 76, 77, 78, 79, 80, 81, 82, 83, 84, 85, 86, 87, 88, 89, 90, 91, 92]) W) :
    Code.wp Try.prog ((Try.f8.body.bind (regionJ 10)).getD .skip) Q A W0 := by
  cases hf : f x
  · exact stands_r10f hsz hA1 hA7 hAm hj hi hk hx hM hmn hf (fun X W h1 h2 => HK X W h1 (by rw [hf]; exact h2))
  · exact stands_r10t hsz hA1 hA7 hAm hj hi hx hM hmn hf (fun X W h1 h2 => HK X W h1 (by rw [hf]; exact h2))
theorem foundB_mem {G : List Vx} (h : Fine G) (x : Int) : foundB (ids G) x = true ↔ x ∈ ids G := by
  rcases split_ids h.ids x with ⟨A, v, B, h1, h2, h3, h4, _, h6⟩ | ⟨A, B, h1, h3, h4, _, h6⟩
  · rw [h6, h1, ids_app, ids_cons, h2]
    simp
  · rw [h6, h1, ids_app]
    simp only [Bool.false_eq_true, List.mem_append, false_iff]
    rintro (hx | hx)
    · obtain ⟨a, ha, rfl⟩ := List.mem_map.1 hx
      have := h3 a ha; omega
    · obtain ⟨a, ha, rfl⟩ := List.mem_map.1 hx
      have := h4 a ha; omega
theorem stands_r16 {W0 : World} {A : Act} {b off n cap j m1 n1 m2 n2 : Nat} {x : Int} {f1 f2 : Int → Bool} {K : Act → World → Prop} {Q' : Exit → Act → World → Prop} (hsz : A.tmps.size = 229) (hA10 : A.eval (.tmp 10) = .slice (some ⟨b, off, none⟩) n cap) (hA11 : A.eval (.tmp 11) = .int .i64 j) (hA5 : A.eval (.tmp 5) = .map (some m1)) (hA6 : A.eval (.tmp 6) = .map (some m2)) (hj : j < n) (hnb : n ≤ 1000000) (hx : W0.cell? ⟨b, off + j * 3, none⟩ = some (.int .i64 x)) (hxx : I64 x) (hM1 : BMap W0 m1 n1 f1) (hM2 : BMap W0 m2 n2 f2) (hgc : f1 x = true → f2 x = true) (hpos : ∀ p, j = p + 1 → ∃ y, W0.cell? ⟨b, off + p * 3, none⟩ = some (.int .i64 y) ∧ y < x)
    (HK : ∀ X W, Below W0.heap.size W0 W → X 141 = .bool false → K (puts A X [107, 108, 109, 110, 111, 112, 113, 114, 115, 116, 117, 118, 119, 120, 121, 122, 123, 124, 125, 126, 127, 128, 129, 130, 131, 132, 133, 134, 135, 136, 137, 138, 139, 140, 141]) W) :
    Code.wp Try.prog ((Try.f8.body.bind (regionJ 16)).getD .skip) (Exit.then K Q') A W0 := by
  cases j with
  | zero =>
    cases hf : f1 x
    · exact stands_r16zf hsz hA10 hA11 hA5 hj hx hxx hM1 hf rfl HK
    · exact stands_r16zt hsz hA10 hA11 hA5 hA6 hj hx hxx hM1 hf hM2 (hgc hf) rfl HK
  | succ p =>
    obtain ⟨y, hy, hyx⟩ := hpos p rfl
    cases hf : f1 x
    · exact stands_r16pf hsz hA10 hA11 hA5 hj hx hxx hM1 hf hnb rfl hy hyx HK
    · exact stands_r16pt hsz hA10 hA11 hA5 hA6 hj hx hxx hM1 hf hM2 (hgc hf) hnb rfl hy hyx HK
set_option maxRecDepth 100000 in
set_option maxHeartbeats 4000000 in
theorem mst_good {w : World} {P Q : Nat → Prop} {ao bo : Option Addr} (G : List Vx) (cap : Nat) (L : List Mu) (cap2 : Nat) (h : VxAt w P ao G) (hok : ∀ v ∈ G, v.ok) (hL : UsAt w Q bo L) (hmo : ∀ m ∈ L, m.ok) (hz : chk G = 0) (hl : L.length ≤ 60) :
    Calls Try.prog 8 #[.agg #[.slice ao G.length cap], .slice bo L.length cap2] w fun r w' => r = .returned (.bool true) ∧ Below w.heap.size w w' := by
  have HG : Hid (∀ W, Below w.heap.size w W → VxAt W P ao G) := fun W hb => h.new hb
  have HL : Hid (∀ W, Below w.heap.size w W → UsAt W Q bo L) := fun W hb => hL.new hb
  have HOk : Hid (∀ v ∈ G, v.ok) := hok
  have HMo : Hid (∀ m ∈ L, m.ok) := hmo
  have HS0 : Hid _ := OB.start w ao G.length cap
  have HC : Hid _ := hz
  have HFi : Hid _ := fine_of hz
  have HUp : Hid _ := up_of hz hok
  have hGl : G.length ≤ 256 := (rise_of hz).1
  obtain ⟨n, hn⟩ : ∃ n, L.length = n := ⟨_, rfl⟩
  rw [hn] at hl ⊢
  have HN : Hid (L.length = n) := hn
  clear h hok hL hmo hz hn
  have hn60 : ¬ (60 : Int) < n := by omega
  have hmm := @run_makeMap Try.prog
  go_enter Try.func8, Try.ntmps8
  go_upto_region 4 with (first
    | (go_at_call 13; refine (ref_any G cap (HG.out _ HS0.out.low) HOk.out (by omega)).mono ?_; rintro r' w2 ⟨bo2, c2, rfl, hV2, hb2⟩; have hS2 := OB.new HS0.out hb2)
    | (go_at_call 14; refine (refcheck_any c2 hV2 (by omega) HOk.out).mono ?_; rintro r' w3 ⟨rfl, hb3⟩; rw [HC.out]; have hS3 := hS2.new hb3; have HS3 : Hid _ := hS3))
  clear hS2 hS3 hV2 hb2 hb3
  clear hmm
  obtain ⟨W4, hW4⟩ : ∃ W4, (w3.alloc (.map #[] 0)).alloc (.map #[] 0) = W4 := ⟨_, rfl⟩
  have hb4 : Below w3.heap.size w3 W4 := by rw [← hW4]; exact ((Below.refl _ _).alloc (Nat.le_refl _) _).alloc (by simp) _
  have HM1 : Hid (BMap W4 w3.heap.size 0 (fun _ => false)) := by
    show BMap _ _ _ _
    rw [← hW4]
    exact (BMap.made w3).new ((Below.refl _ _).alloc (Nat.le_refl _) _)
  have HM2 : Hid (BMap W4 (w3.heap.size + 1) 0 (fun _ => false)) := by
    show BMap _ _ _ _
    rw [← hW4]
    have := BMap.made (w3.alloc (.map #[] 0))
    simpa using this
  have HO4 : Hid _ := HS3.out.new hb4
  have HMl : Hid (w.heap.size + 1 ≤ w3.heap.size) := HS3.out.lt
  simp only [hW4]
  clear hW4 hb4 HS3
  generalize w3.heap.size = m1 at HM1 HM2 HMl ⊢
  go_wp2
  go_loopw [7] (fun i wr => ∃ j : Nat, j ≤ n ∧ i = .int .i64 j ∧ OB w wr ao G.length cap ∧ Hid (∀ q (hq : q < L.length), q < j → 1 ≤ L[q].k ∧ L[q].k ≤ 4) ∧ Hid (BMap wr m1 j (goneB (L.take j))) ∧ Hid (BMap wr (m1 + 1) j (cameB (L.take j)))) (fun i _ => n - (intOf i).toNat)
  case atStart => exact ⟨0, Nat.zero_le _, rfl, HO4.out, fun q _ hq => absurd hq (by omega), HM1.out, HM2.out⟩
  case round =>
    obtain ⟨j, hj, rfl, hO, hK, HA1, HA2⟩ := hrel
    clear HO4 HM1 HM2
    by_cases hlt : j < n
    · have hLn := HN.out
      obtain ⟨b, off, rfl, hP, hc⟩ := HL.out _ hO.low (by omega)
      have hjL : j < L.length := by omega
      have ck := (hc j hjL).1
      have ci := (hc j hjL).2.1
      have HTk : Hid (L.take (j + 1) = L.take j ++ [L[j]]) := (List.take_append_getElem hjL).symm
      have HKj : Hid (∀ q (hq : q < L.length), q = j → L[q] = L[j]) := fun q hq e => by subst e; rfl
      have HMj : Hid (I64 L[j].i) := (HMo.out _ (List.getElem_mem hjL)).i
      have HNx : Hid (∀ W, Below w.heap.size w W → W.cell? ⟨b, off + j * 4, none⟩ = some (.int .i64 L[j].k) ∧ W.cell? ⟨b, off + j * 4 + 1, none⟩ = some (.int .i64 L[j].i)) := fun W hb => by
        obtain ⟨b', off', e, _, hc'⟩ := HL.out W hb (by omega)
        cases e
        exact ⟨(hc' j hjL).1, (hc' j hjL).2.1⟩
      generalize L[j] = m at ck ci HTk HKj HMj HNx
      have HO : Hid _ := hO
      have HCi : Hid _ := ci
      have HCk : Hid _ := ck
      generalize hmk : m.k = kj at ck
      have HKk : Hid _ := hmk
      clear hO hc hLn ci hmk
      by_cases hk1 : kj < 1
      · go_wp2_with (go_at_call 15; refine (awake6 _).mono ?_; rintro r' w4 ⟨rfl, hb4⟩; have hS4 := HO.out.new hb4)
        go_ret
        exact ⟨rfl, hS4.low⟩
      · by_cases hk4 : 4 < kj
        · go_wp2_with (go_at_call 15; refine (awake6 _).mono ?_; rintro r' w4 ⟨rfl, hb4⟩; have hS4 := HO.out.new hb4)
          go_ret
          exact ⟨rfl, hS4.low⟩
        · go_upto_region 9 with fail
          refine stands_r9 (b := b) (off := off) (n := n) (cap := cap2) (j := j) (mb := m1) (mn := j) (x := m.i) (k := m.k) (f := goneB (L.take j)) rfl rfl rfl rfl hlt HCi.out HCk.out HMj.out HA1.out (by unfold maxLen; omega) ?_
          intro X W5 hfr5 hM5
          rw [goneB_put, ← HTk.out] at hM5
          have HM5 : Hid (BMap W5 m1 (j + 1) (goneB (L.take (j + 1)))) := hM5
          have HO5 : Hid _ := HO.out.fr hfr5 (fun k e => by have := HMl.out; omega)
          have HM5b : Hid (BMap W5 (m1 + 1) j (cameB (L.take j))) := BMap.same HA2.out (hfr5.block (m1 + 1) (BMap.lt HA2.out) (by omega))
          clear hfr5 hM5 HA1 HA2 HCi HCk ck
          go_upto_region 10 with fail
          refine stands_r10 (b := b) (off := off) (n := n) (cap := cap2) (j := j) (mb := m1 + 1) (mn := j) (x := m.i) (k := m.k) (f := cameB (L.take j)) ((puts_size _ _ _).trans rfl) ((eval_out (by decide)).trans rfl) ((eval_out (by decide)).trans rfl) ((eval_out (by decide)).trans rfl) hlt (HNx.out _ HO5.out.low).2 (HNx.out _ HO5.out.low).1 HMj.out HM5b.out (by unfold maxLen; omega) ?_
          intro Y W6 hfr6 hM6
          rw [cameB_put, ← HTk.out] at hM6
          have HM6 : Hid (BMap W6 (m1 + 1) (j + 1) (cameB (L.take (j + 1)))) := hM6
          have HO6 : Hid _ := HO5.out.fr hfr6 (fun k e => by have := HMl.out; omega)
          have HM6b : Hid (BMap W6 m1 (j + 1) (goneB (L.take (j + 1)))) := BMap.same HM5.out (hfr6.block m1 (BMap.lt HM5.out) (by omega))
          clear hfr6 hM6 HM5 HM5b
          simp only [puts]
          generalize X 51 = sx51
          generalize X 52 = sx52
          generalize X 53 = sx53
          generalize X 54 = sx54
          generalize X 55 = sx55
          generalize X 56 = sx56
          generalize X 57 = sx57
          generalize X 58 = sx58
          generalize X 59 = sx59
          generalize X 60 = sx60
          generalize X 61 = sx61
          generalize X 62 = sx62
          generalize X 63 = sx63
          generalize X 64 = sx64
          generalize X 65 = sx65
          generalize X 66 = sx66
          generalize X 67 = sx67
          generalize X 68 = sx68
          generalize X 69 = sx69
          generalize X 70 = sx70
          generalize X 71 = sx71
          generalize Y 72 = sy72
          generalize Y 73 = sy73
          generalize Y 74 = sy74
          generalize Y 75 = sy75
          generalize Y 76 = sy76
          generalize Y 77 = sy77
          generalize Y 78 = sy78
          generalize Y 79 = sy79
          generalize Y 80 = sy80
          generalize Y 81 = sy81
          generalize Y 82 = sy82
          generalize Y 83 = sy83
          generalize Y 84 = sy84
          generalize Y 85 = sy85
          generalize Y 86 = sy86
          generalize Y 87 = sy87
          generalize Y 88 = sy88
          generalize Y 89 = sy89
          generalize Y 90 = sy90
          generalize Y 91 = sy91
          generalize Y 92 = sy92
          clear X Y
          go_wp2
          go_roundw
          case rel => exact ⟨j + 1, by omega, by go_num, HO6.out, fun q hq hqj => by
            by_cases e : q = j
            · rw [HKj.out q hq e, HKk.out]; omega
            · exact hK.out q hq (by omega), HM6b.out, HM6.out⟩
          case measure => simp [intOf]; omega
    · obtain rfl : j = n := by omega
      have HKa : Hid (∀ m ∈ L, 1 ≤ m.k ∧ m.k ≤ 4) := fun x hx => by
        obtain ⟨q, hq, rfl⟩ := List.getElem_of_mem hx
        exact hK.out q hq (by have := HN.out; omega)
      have HM1 : Hid (BMap wr m1 j (goneB L)) := by
        have := HA1.out
        rwa [List.take_of_length_le (by have := HN.out; omega)] at this
      have HM2 : Hid (BMap wr (m1 + 1) j (cameB L)) := by
        have := HA2.out
        rwa [List.take_of_length_le (by have := HN.out; omega)] at this
      obtain ⟨AG, an, hA⟩ : ∃ AG an, appG G L = (AG, an) := ⟨_, _, rfl⟩
      clear HA1 HA2
      have HA1 : Hid _ := hA
      have hAu := appG_up HFi.out HUp.out L
      have hAo := appG_okk HFi.out HUp.out HOk.out HMo.out (by have := HN.out; omega)
      have hAf := appG_fine HFi.out L
      have hAi := appG_ids HFi.out L
      have hAc := appG_cnt G L
      rw [hA] at hAu hAo hAf hAi hAc
      have hAl : AG.length ≤ 2108 := by have := hAu.1; have := HN.out; simp only at *; omega
      have HAe : Hid (∀ v ∈ AG, v.es.length ≤ 2108) := fun v hv => by have := hAu.2 v hv; have := HN.out; omega
      have HAo : Hid (∀ v ∈ AG, v.ok) := hAo
      have HAf : Hid (Fine AG) := hAf
      have HAi : Hid (∀ x, x ∈ ids AG ↔ (comes L x ∨ (x ∈ ids G ∧ ¬ goes L x))) := hAi
      have HJL : Hid (j = L.length) := HN.out.symm
      have HAc : Hid (an ≤ L.length) := hAc
      have HO2 : Hid _ := hO
      have hcl := hO.cell
      clear hO hA hAu hAo hK hAf hAi hAc
      go_upto_region 12 with (go_at_call 16; refine (apply_nv G cap L cap2 rfl HJL.out (HG.out _ HO2.out.low) HOk.out HFi.out HUp.out (by omega) (HL.out _ HO2.out.low) HKa.out HA1.out).mono ?_; rintro r' w5 ⟨so5, sc5, rfl, hV5, hb5⟩; have HV5 : Hid _ := hV5; have HB5 : Hid _ := hb5; clear hV5 hb5)
      obtain ⟨W6, hW6⟩ : ∃ W6, w5.alloc (.cells #[.slice so5 AG.length sc5] 24) = W6 := ⟨_, rfl⟩
      have hb6 : Below w5.heap.size w5 W6 := by rw [← hW6]; exact one_new _ _
      have hbx6 : W6.heap[w5.heap.size]? = some (.cells #[.slice so5 AG.length sc5] 24 (0, 0)) := by rw [← hW6]; exact heap_alloc_new _ _
      have HO6 : Hid (OB w W6 ao G.length cap) := (HO2.out.new HB5.out).new hb6
      have HV6 : Hid (VxAt W6 _ so5 AG) := VxAt.new HV5.out hb6
      have HM16 : Hid (BMap W6 m1 j (goneB L)) := BMap.new (BMap.new HM1.out HB5.out) hb6
      have HM26 : Hid (BMap W6 (m1 + 1) j (cameB L)) := BMap.new (BMap.new HM2.out HB5.out) hb6
      have x6 := cellGs hbx6
      simp only [hW6]
      clear hW6 hb6 hbx6 hcl HO2 HB5 HV5 HM1 HM2
      go_upto_region 13 with (go_at_call 13; refine (ref_any AG sc5 HV6.out HAo.out (by omega)).mono ?_; rintro r' w7 ⟨go7, gc7, rfl, hV7, hb7⟩; have HV7 : Hid _ := hV7; have HO7 : Hid _ := HO6.out.new hb7; have HM17 : Hid (BMap w7 m1 j (goneB L)) := BMap.new HM16.out hb7; have HM27 : Hid (BMap w7 (m1 + 1) j (cameB L)) := BMap.new HM26.out hb7; clear hV7 hb7)
      clear HM16 HM26 HO6 HV6 x6
      go_wp2
      go_loopw [11, 12, 13, 14] (fun i _ _ _ wr => ∃ q : Nat, q ≤ AG.length ∧ i = .int .i64 q ∧ Below w7.heap.size w7 wr) (fun i _ _ _ _ => AG.length - (intOf i).toNat)
      case atStart => exact ⟨0, Nat.zero_le _, rfl, Below.refl _ _⟩
      case round =>
        obtain ⟨q, hq, rfl, hb8⟩ := hrel
        by_cases hlt : q < AG.length
        · obtain ⟨b, off, rfl, hP, hc⟩ := (VxAt.new HV7.out hb8) (by omega)
          obtain ⟨eo, ec, cid, cval, ces, hEd⟩ := hc q hlt
          have HVx : Hid (∀ W, Below w7.heap.size w7 W → VxAt W _ (some ⟨b, off, none⟩) AG) := fun W hb => VxAt.new HV7.out hb
          have HPos : Hid (∀ p, q = p + 1 → ∃ y, wr.cell? ⟨b, off + p * 3, none⟩ = some (.int .i64 y) ∧ y < AG[q].id) := fun p hp => by
            subst hp
            obtain ⟨_, _, c1, _⟩ := hc p (by omega)
            refine ⟨_, c1, ?_⟩
            have h1 := List.pairwise_iff_getElem.1 HAf.out.ids p (p + 1) (by rw [ids_len]; omega) (by rw [ids_len]; omega) (by omega)
            simpa [ids] using h1
          have HXx : Hid (I64 AG[q].id) := (HAo.out _ (List.getElem_mem hlt)).id
          have HXi : Hid (AG[q].id ∈ ids AG) := List.mem_map_of_mem (List.getElem_mem hlt)
          have hEl := HAe.out _ (List.getElem_mem hlt)
          have HEs : Hid (∀ W, Below w7.heap.size w7 W → W.cell? ⟨b, off + q * 3 + 2, none⟩ = some (.slice eo AG[q].es.length ec) ∧ ∀ k, 1 ≤ k → k < AG[q].es.length → ∃ eb eoff pk y z, eo = some ⟨eb, eoff, none⟩ ∧ k = pk + 1 ∧ W.cell? ⟨eb, eoff + pk * 2, none⟩ = some (.int .i64 y) ∧ W.cell? ⟨eb, eoff + k * 2, none⟩ = some (.int .i64 z) ∧ y < z) := fun W hb => by
            obtain ⟨b', off', e, _, hc'⟩ := (VxAt.new HV7.out hb) (by omega)
            cases e
            obtain ⟨eo', ec', _, _, ces', hEd'⟩ := hc' q hlt
            have e2 : some (Value.slice eo' AG[q].es.length ec') = some (.slice eo AG[q].es.length ec) := by
              obtain ⟨b0, off0, e0, _, hc0⟩ := HV7.out (by omega)
              cases e0
              obtain ⟨eo0, ec0, _, _, ces0, _⟩ := hc0 q hlt
              have a1 := (hb.cell (p := ⟨b, off + q * 3 + 2, none⟩) (lt_cell ces0)).trans ces0
              have a2 := (hb8.cell (p := ⟨b, off + q * 3 + 2, none⟩) (lt_cell ces0)).trans ces0
              rw [← ces', ← ces, a1, a2]
            cases e2
            refine ⟨ces', fun k h1 hk => ?_⟩
            obtain ⟨eb, eoff, e3, _, hcs⟩ := hEd' (by omega)
            have hr := List.pairwise_iff_getElem.1 (HAf.out.es _ (List.getElem_mem hlt)) (k - 1) k (by rw [ends_len]; omega) (by rw [ends_len]; omega) (by omega)
            refine ⟨eb, eoff, k - 1, _, _, e3, by omega, (hcs (k - 1) (by omega)).1, (hcs k hk).1, ?_⟩
            simpa [ends] using hr
          clear cval ces hEd hc
          generalize AG[q].id = x at cid HPos HXx HXi
          generalize AG[q].es.length = en at HEs hEl
          have HCid : Hid _ := cid
          have HB8 : Hid _ := hb8
          clear cid hb8
          go_upto_region 16 with fail
          refine stands_r16 (b := b) (off := off) (n := AG.length) (cap := gc7) (j := q) (m1 := m1) (n1 := j) (m2 := m1 + 1) (n2 := j) (x := x) (f1 := goneB L) (f2 := cameB L) rfl rfl rfl rfl rfl hlt (by omega) HCid.out HXx.out (BMap.new HM17.out HB8.out) (BMap.new HM27.out HB8.out) (fun hg => ?_) HPos.out ?_
          · rw [goneB_iff] at hg
            rw [cameB_iff]
            rcases (HAi.out x).1 HXi.out with h | ⟨_, h⟩
            · exact h
            · exact absurd hg h
          intro X W9 hb9 hX
          simp only [puts]
          rw [hX]
          generalize X 107 = sx107
          generalize X 108 = sx108
          generalize X 109 = sx109
          generalize X 110 = sx110
          generalize X 111 = sx111
          generalize X 112 = sx112
          generalize X 113 = sx113
          generalize X 114 = sx114
          generalize X 115 = sx115
          generalize X 116 = sx116
          generalize X 117 = sx117
          generalize X 118 = sx118
          generalize X 119 = sx119
          generalize X 120 = sx120
          generalize X 121 = sx121
          generalize X 122 = sx122
          generalize X 123 = sx123
          generalize X 124 = sx124
          generalize X 125 = sx125
          generalize X 126 = sx126
          generalize X 127 = sx127
          generalize X 128 = sx128
          generalize X 129 = sx129
          generalize X 130 = sx130
          generalize X 131 = sx131
          generalize X 132 = sx132
          generalize X 133 = sx133
          generalize X 134 = sx134
          generalize X 135 = sx135
          generalize X 136 = sx136
          generalize X 137 = sx137
          generalize X 138 = sx138
          generalize X 139 = sx139
          generalize X 140 = sx140
          simp only [Act.put, List.setIfInBounds_toArray, List.set_cons_succ, List.set_cons_zero]
          have HB9a : Hid _ := HB8.out.trans (hb9.mono HB8.out.size)
          have HCid9 : Hid _ := (hb9.cell (p := ⟨b, off + q * 3, none⟩) (lt_cell HCid.out)).trans HCid.out
          clear hb9 hX X HB8 HCid HPos
          have HO9 : Hid _ := HO7.out.new HB9a.out
          go_upto_region 18 with fail
          obtain ⟨fb, hfb⟩ : ∃ fb, foundB (ids G) x = fb := ⟨_, rfl⟩
          refine stands_r18 (bx := w.heap.size) (b := b) (off := off) (n := AG.length) (cap := gc7) (j := q) (gn := G.length) (gc := cap) (x := x) (ao := ao) (P := P) (G := G) (fb := fb) (by kernel_rfl) (by kernel_rfl) (by kernel_rfl) (by kernel_rfl) HO9.out.cell rfl hlt HCid9.out (HG.out _ HO9.out.low) HOk.out (by omega) hfb ?_
          intro Y W10 hb10 hY
          simp only [puts]
          rw [hY]
          generalize Y 12 = sy12
          generalize Y 142 = sy142
          generalize Y 143 = sy143
          generalize Y 144 = sy144
          generalize Y 145 = sy145
          generalize Y 146 = sy146
          generalize Y 147 = sy147
          generalize Y 148 = sy148
          generalize Y 149 = sy149
          generalize Y 150 = sy150
          generalize Y 151 = sy151
          generalize Y 152 = sy152
          simp only [Act.put, List.setIfInBounds_toArray, List.set_cons_succ, List.set_cons_zero]
          have HB9 : Hid _ := HB9a.out.trans (hb10.mono HB9a.out.size)
          have cx10 := (hb10.cell (p := ⟨b, off + q * 3, none⟩) (lt_cell HCid9.out)).trans HCid9.out
          clear hb10 hY Y HB9a HCid9 HO9
          cases fb
          · have hcm : cameB L x = true := by
              rw [cameB_iff]
              rcases (HAi.out x).1 HXi.out with h | ⟨h, _⟩
              · exact h
              · rw [← foundB_mem HFi.out, hfb] at h; cases h
            have hlk := BMap.look (BMap.new HM27.out HB9.out) HXx.out
            rw [hcm] at hlk
            clear hcm hfb
            go_upto_region 21 with fail
            clear hlk cx10
            go_wp2
            go_loopw [14] (fun k wr => ∃ kk : Nat, 1 ≤ kk ∧ k = .int .i64 kk ∧ Below w7.heap.size w7 wr) (fun k _ => 5000 - (intOf k).toNat)
            case atStart => exact ⟨1, Nat.le_refl _, rfl, HB9.out⟩
            case round =>
              obtain ⟨kk, hkk, rfl, hb10⟩ := hrel
              have HB10 : Hid _ := hb10
              obtain ⟨ce0, HE⟩ := HEs.out _ hb10
              clear hb10 HB9
              by_cases hke : kk < en
              · have hki : (kk : Int) < en := by omega
                obtain ⟨eb, eoff, pk, y, z, rfl, hpk, hy, hz, hyz⟩ := HE kk hkk hke
                have HPk : Hid _ := hpk
                have HY : Hid _ := hy
                have HZ : Hid _ := hz
                have HYZ : Hid _ := hyz
                have HCE : Hid _ := ce0
                clear HE hpk hy hz hyz
                go_upto_region 24 with fail
                refine stands_r24 (b := b) (off := off) (n := AG.length) (cap := gc7) (j := q) (eb := eb) (eoff := eoff) (en := en) (ec := ec) (k := kk) (p := pk) (x := z) (y := y) rfl rfl rfl rfl hlt hke (by omega) HPk HCE.out HY.out HZ.out HYZ.out ?_
                intro X W11 hb11 hX
                simp only [puts]
                rw [hX]
                generalize X 175 = sx175
                generalize X 176 = sx176
                generalize X 177 = sx177
                generalize X 178 = sx178
                generalize X 179 = sx179
                generalize X 180 = sx180
                generalize X 181 = sx181
                generalize X 182 = sx182
                generalize X 183 = sx183
                generalize X 184 = sx184
                generalize X 185 = sx185
                generalize X 186 = sx186
                generalize X 187 = sx187
                generalize X 188 = sx188
                generalize X 189 = sx189
                generalize X 190 = sx190
                generalize X 191 = sx191
                generalize X 192 = sx192
                generalize X 193 = sx193
                simp only [Act.put, List.setIfInBounds_toArray, List.set_cons_succ, List.set_cons_zero]
                have HB11 : Hid _ := HB10.out.trans (hb11.mono HB10.out.size)
                clear hb11 hX X ce0
                go_wp2
                go_roundw
                case rel => exact ⟨kk + 1, by omega, by go_num, HB11.out⟩
                case measure => simp [intOf]; omega
              · have hki : ¬ (kk : Int) < en := by omega
                clear HE
                go_wp2
                go_roundw
                case rel => exact ⟨q + 1, by omega, by go_num, HB10.out⟩
                case measure => simp [intOf]; omega
          · clear hfb
            go_upto_region 21 with fail
            clear cx10
            go_wp2
            go_loopw [14] (fun k wr => ∃ kk : Nat, 1 ≤ kk ∧ k = .int .i64 kk ∧ Below w7.heap.size w7 wr) (fun k _ => 5000 - (intOf k).toNat)
            case atStart => exact ⟨1, Nat.le_refl _, rfl, HB9.out⟩
            case round =>
              obtain ⟨kk, hkk, rfl, hb10⟩ := hrel
              have HB10 : Hid _ := hb10
              obtain ⟨ce0, HE⟩ := HEs.out _ hb10
              clear hb10 HB9
              by_cases hke : kk < en
              · have hki : (kk : Int) < en := by omega
                obtain ⟨eb, eoff, pk, y, z, rfl, hpk, hy, hz, hyz⟩ := HE kk hkk hke
                have HPk : Hid _ := hpk
                have HY : Hid _ := hy
                have HZ : Hid _ := hz
                have HYZ : Hid _ := hyz
                have HCE : Hid _ := ce0
                clear HE hpk hy hz hyz
                go_upto_region 24 with fail
                refine stands_r24 (b := b) (off := off) (n := AG.length) (cap := gc7) (j := q) (eb := eb) (eoff := eoff) (en := en) (ec := ec) (k := kk) (p := pk) (x := z) (y := y) rfl rfl rfl rfl hlt hke (by omega) HPk HCE.out HY.out HZ.out HYZ.out ?_
                intro X W11 hb11 hX
                simp only [puts]
                rw [hX]
                generalize X 175 = sx175
                generalize X 176 = sx176
                generalize X 177 = sx177
                generalize X 178 = sx178
                generalize X 179 = sx179
                generalize X 180 = sx180
                generalize X 181 = sx181
                generalize X 182 = sx182
                generalize X 183 = sx183
                generalize X 184 = sx184
                generalize X 185 = sx185
                generalize X 186 = sx186
                generalize X 187 = sx187
                generalize X 188 = sx188
                generalize X 189 = sx189
                generalize X 190 = sx190
                generalize X 191 = sx191
                generalize X 192 = sx192
                generalize X 193 = sx193
                simp only [Act.put, List.setIfInBounds_toArray, List.set_cons_succ, List.set_cons_zero]
                have HB11 : Hid _ := HB10.out.trans (hb11.mono HB10.out.size)
                clear hb11 hX X ce0
                go_wp2
                go_roundw
                case rel => exact ⟨kk + 1, by omega, by go_num, HB11.out⟩
                case measure => simp [intOf]; omega
              · have hki : ¬ (kk : Int) < en := by omega
                clear HE
                go_wp2
                go_roundw
                case rel => exact ⟨q + 1, by omega, by go_num, HB10.out⟩
                case measure => simp [intOf]; omega
        · obtain rfl : q = AG.length := by omega
          have HB8 : Hid _ := hb8
          clear hb8
          go_wp2
          go_loopw [15, 16, 17] (fun i _ _ wr => ∃ q : Nat, q ≤ j ∧ i = .int .i64 q ∧ Below w7.heap.size w7 wr) (fun i _ _ _ => j - (intOf i).toNat)
          case atStart => exact ⟨0, Nat.zero_le _, rfl, HB8.out⟩
          case round =>
            obtain ⟨q, hq2, rfl, hb8⟩ := hrel
            clear HB8
            have HB8 : Hid _ := hb8
            have HO8 : Hid _ := HO7.out.new hb8
            clear hb8
            by_cases hlt : q < j
            · have hlti : (q : Int) < j := by omega
              have hqL : q < L.length := by have := HJL.out; omega
              obtain ⟨b, off, rfl, hP, hc⟩ := HL.out _ HO8.out.low (by omega)
              have HNx : Hid (∀ W, Below w.heap.size w W → W.cell? ⟨b, off + q * 4 + 1, none⟩ = some (.int .i64 L[q].i)) := fun W hb => by
                obtain ⟨b', off', e, _, hc'⟩ := HL.out W hb (by omega)
                cases e
                exact (hc' q hqL).2.1
              have ci := (hc q hqL).2.1
              have HXx : Hid (I64 L[q].i) := (HMo.out _ (List.getElem_mem hqL)).i
              clear hc
              generalize L[q].i = x at ci HXx HNx
              by_cases hcm : cameB L x = true
              · have HFd : Hid (foundB (ids AG) x = true) := by
                  show _ = _
                  rw [foundB_mem HAf.out, HAi.out x]
                  exact .inl ((cameB_iff _ _).1 hcm)
                have HCm : Hid _ := hcm
                clear hcm
                go_upto_region 30 with (go_at_call 35; refine (reffind_any gc7 x (VxAt.new HV7.out HB8.out) (by omega)).mono ?_; rintro r' w9 ⟨rfl, hb9⟩; rw [HFd.out]; have HB9 : Hid _ := HB8.out.trans (hb9.mono HB8.out.size); have HO9 : Hid _ := HO8.out.new hb9; clear hb9)
                have hlk := BMap.look (BMap.new HM27.out HB9.out) HXx.out
                rw [HCm.out] at hlk
                have ci9 := HNx.out _ HO9.out.low
                go_wp2
                go_roundw
                case rel => exact ⟨q + 1, by omega, by go_num, HB9.out⟩
                case measure => simp [intOf]; omega
              · have HCm : Hid (cameB L x = false) := Bool.eq_false_iff.2 hcm
                clear hcm
                go_upto_region 30 with (go_at_call 35; refine (reffind_any gc7 x (VxAt.new HV7.out HB8.out) (by omega)).mono ?_; rintro r' w9 ⟨rfl, hb9⟩; have HB9 : Hid _ := HB8.out.trans (hb9.mono HB8.out.size); have HO9 : Hid _ := HO8.out.new hb9; clear hb9)
                have hlk := BMap.look (BMap.new HM27.out HB9.out) HXx.out
                rw [HCm.out] at hlk
                have ci9 := HNx.out _ HO9.out.low
                go_wp2
                go_roundw
                case rel => exact ⟨q + 1, by omega, by go_num, HB9.out⟩
                case measure => simp [intOf]; omega
            · have hlti : ¬ (q : Int) < j := by omega
              have hAn : (an : Int) ≤ j := by have := HAc.out; have := HJL.out; omega
              go_wp2_with (go_at_call 15; refine (awake6 _).mono ?_; rintro r' w9 ⟨rfl, hb9⟩; have HO9 : Hid _ := HO8.out.new hb9; clear hb9)
              go_ret
              exact ⟨by simp, HO9.out.low⟩
end Go.Proofs.Ythnhmhjcpdomcaa
