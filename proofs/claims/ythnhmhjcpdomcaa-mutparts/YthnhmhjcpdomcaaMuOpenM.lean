import Derived.Test.YthnhmhjcpdomcaaMuPartM
import Derived.Test.YthnhmhjcpdomcaaMuOfM
import Derived.Test.YthnhmhjcpdomcaaLawMBoxM
import Derived.Test.YthnhmhjcpdomcaaMuEdgeM
import Derived.Test.YthnhmhjcpdomcaaGrRef
import Derived.Deep.RegionHeldLaw
import Derived.Test.YthnhmhjcpdomcaaGrData
import Derived.Test.YthnhmhjcpdomcaaProg
import Derived.WalkKit
import Derived.ProofKit
import Derived.OpenShut
import Derived.Deep.Slices
import Derived.Deep.Strs
import Derived.Lib.SmallJoins
import Derived.SizedLaws
section
/- MutParts: requests done partition by partition. -/
namespace Go.Proofs.Ythnhmhjcpdomcaa
open Go.RowKit Go.Sort
set_option maxRecDepth 100000 in
set_option maxHeartbeats 1000000 in
/-- What may not be, or is too much. -/
theorem mparts_bad {w : World} {P : Nat → Prop} {ao bo : Option Addr} (G : List Vx) (cap : Nat) (n cap2 : Nat) (parts : Int) (h : VxAt w P ao G) (hok : ∀ v ∈ G, v.ok) (hl : G.length * 40 ≤ 140737488355328) (hz : chk G ≠ 0 ∨ 60 < n ∨ parts < 1 ∨ 16 < parts) :
    Calls Try.prog 6 #[.agg #[.slice ao G.length cap], .slice bo n cap2, .int .i64 parts] w fun r w' => r = .returned (.bool true) ∧ Below w.heap.size w w' := by
  have HG : Hid (∀ W, Below w.heap.size w W → VxAt W P ao G) := fun W hb => h.new hb
  have HOk : Hid (∀ v ∈ G, v.ok) := hok
  have HS0 : Hid _ := OB.start w ao G.length cap
  clear h hok
  obtain ⟨c, hc⟩ : ∃ c, chk G = c := ⟨_, rfl⟩
  have HC : Hid _ := hc
  rw [hc] at hz
  clear hc
  by_cases hc0 : c = 0
  · have hc1 : (c != 0) = false := by simpa using hc0
    by_cases hn : (60 : Int) < n
    · clear hz hc0
      go_enter Try.func6, Try.ntmps6
      go_wp2_with (first
        | (go_at_call 13; refine (ref_any G cap (HG.out _ hS1.low) HOk.out hl).mono ?_; rintro r w2 ⟨bo2, c2, rfl, hV2, hb2⟩; have hS2 := hS1.new hb2)
        | (go_at_call 14; refine (refcheck_any c2 hV2 (by omega) HOk.out).mono ?_; rintro r w3 ⟨rfl, hb3⟩; rw [HC.out]; have hS3 := hS2.new hb3)
        | (go_at_call 15; first
          | (have := hS3; refine (awake6 _).mono ?_; rintro r w4 ⟨rfl, hb4⟩; have hS4 := hS3.new hb4)
          | (refine (awake6 _).mono ?_; rintro r w1 ⟨rfl, hb1⟩; have hS1 := OB.new HS0.out hb1; have x1 := hS1.cell)))
      go_ret
      exact ⟨rfl, hS4.low⟩
    · have hp : parts < 1 ∨ 16 < parts := by omega
      clear hz hc0
      rcases hp with hp | hp
      all_goals
        by_cases hp1 : parts < 1
        all_goals
          go_enter Try.func6, Try.ntmps6
          go_wp2_with (first
            | (go_at_call 13; refine (ref_any G cap (HG.out _ hS1.low) HOk.out hl).mono ?_; rintro r w2 ⟨bo2, c2, rfl, hV2, hb2⟩; have hS2 := hS1.new hb2)
            | (go_at_call 14; refine (refcheck_any c2 hV2 (by omega) HOk.out).mono ?_; rintro r w3 ⟨rfl, hb3⟩; rw [HC.out]; have hS3 := hS2.new hb3)
            | (go_at_call 15; first
              | (have := hS3; refine (awake6 _).mono ?_; rintro r w4 ⟨rfl, hb4⟩; have hS4 := hS3.new hb4)
              | (refine (awake6 _).mono ?_; rintro r w1 ⟨rfl, hb1⟩; have hS1 := OB.new HS0.out hb1; have x1 := hS1.cell)))
          first
            | (exfalso; omega)
            | (go_ret; exact ⟨rfl, hS4.low⟩)
  · have hc1 : (c != 0) = true := by simpa using hc0
    clear hz hc0
    go_enter Try.func6, Try.ntmps6
    go_wp2_with (first
      | (go_at_call 13; refine (ref_any G cap (HG.out _ hS1.low) HOk.out hl).mono ?_; rintro r w2 ⟨bo2, c2, rfl, hV2, hb2⟩; have hS2 := hS1.new hb2)
      | (go_at_call 14; refine (refcheck_any c2 hV2 (by omega) HOk.out).mono ?_; rintro r w3 ⟨rfl, hb3⟩; rw [HC.out]; have hS3 := hS2.new hb3)
      | (go_at_call 15; first
        | (have := hS3; refine (awake6 _).mono ?_; rintro r w4 ⟨rfl, hb4⟩; have hS4 := hS3.new hb4)
        | (refine (awake6 _).mono ?_; rintro r w1 ⟨rfl, hb1⟩; have hS1 := OB.new HS0.out hb1; have x1 := hS1.cell)))
    go_ret
    exact ⟨rfl, hS4.low⟩
end Go.Proofs.Ythnhmhjcpdomcaa
end

section
/- The law's ref: requests as the document has them; the document's Before. -/
namespace Go.Proofs.Ythnhmhjcpdomcaa
open Go.RowKit Go.Sort
/-- A row of the document's requests of one's own. -/
def RO (w : World) (base : Nat) (v : Value) (L : List Mu) : Prop := w.ownsRow base 45 4 v L.length (L.flatMap muCells)
theorem infoRMu : (Try.prog.info? 45).map (fun i => (i.zero, i.size, i.bytes)) = some (some (.agg #[.int .i64 0, .int .i64 0, .int .i64 0, .int .i64 0]), 4, 32) := by kernel_rfl
theorem RO.new {w w' : World} {base : Nat} {v : Value} {R : List Mu} (h : RO w base v R) (hb : Below w.heap.size w w') : RO w' base v R := own_new' h hb
theorem u_four {W : World} {b : Nat} {t : TypeId} {f : Nat × Nat} {y : Mu} (h : W.heap[b]? = some (.cells #[.int .i64 y.k, .int .i64 y.i, .int .i64 y.t, .int .i64 y.v] t f)) : ∀ j u, (muCells y)[j]? = some u → W.cell? ((⟨b, 0, none⟩ : Addr).add j) = some u := by
  intro j u hu
  rw [Addr.add_lit, Nat.zero_add]
  simp only [World.cell?, h]
  simpa [muCells] using hu
theorem mu_snoc (L : List Mu) (y : Mu) : (L ++ [y]).flatMap muCells = L.flatMap muCells ++ muCells y := by simp
theorem one_drewU (w : World) (o : Obj) : Below w.heap.size w (w.alloc o).drew := (one_newU w o).drew
theorem UC.fr {w w' : World} {S : Nat → Prop} (f : Fr w w' S) {g o : Nat} {x : Mu} (h : UC w g o x) (hn : ¬ S g) : UC w' g o x := ⟨fr_cell f hn h.1, fr_cell f hn h.2.1, fr_cell f hn h.2.2.1, fr_cell f hn h.2.2.2⟩
set_option maxRecDepth 100000 in
set_option maxHeartbeats 1000000 in
theorem refU_any {w : World} {P : Nat → Prop} {ao : Option Addr} (L : List Mu) (cap : Nat) (h : UsAt w P ao L) (hl : L.length ≤ 1073741824) :
    Calls Try.prog 18 #[.slice ao L.length cap] w fun r w' => ∃ v, r = .returned v ∧ RO w' w.heap.size v L ∧ Below w.heap.size w w' := by
  obtain ⟨i0, hi, hz0, hz1, hz2⟩ := info_parts infoRMu
  have HG : Hid (UsAt w P ao L) := h
  clear h
  go_enter Try.func18, Try.ntmps18
  go_wp2
  go_loopw [3, 4] (fun u i wr => ∃ (j : Nat) (o : Option Addr) (m c : Nat), j ≤ L.length ∧ u = .slice o m c ∧ i = .int .i64 j ∧ RO wr w.heap.size (.slice o m c) (L.take j) ∧ Below w.heap.size w wr) (fun _ i _ => L.length - (intOf i).toNat)
  case atStart =>
    exact ⟨0, _, _, _, Nat.zero_le _, rfl, rfl, World.ownsRow_made w #[] 0 (Nat.le_refl _) (by decide) (by simp), (Below.refl _ w).alloc (Nat.le_refl _) _⟩
  case round =>
    obtain ⟨j, o, m, c, hj, rfl, rfl, hR, hb⟩ := hrel
    by_cases hlt : j < L.length
    · obtain ⟨b, off, rfl, hP, hc⟩ := HG.out (by omega)
      have x0 := (hc j hlt).new hb
      have HS : Hid (L.take (j + 1) = L.take j ++ [L[j]]) := List.take_succ_eq_append_getElem hlt
      have HLg : Hid ((L.take j).length = j) := by show _ = _; rw [List.length_take]; omega
      generalize L[j] = y at x0 HS
      have hbl := lt_cell x0.1
      have HBl : Hid (b < w.heap.size) := lt_cell (hc j hlt).1
      have HR : Hid _ := hR
      have HB : Hid _ := hb
      have HX : Hid _ := x0
      have x9 := fun o => UC.new x0 (one_newU wr o)
      clear hc hR hb
      unfold UC at x0 x9
      go_upto_region 5 with (fail)
      go_region_held_law (fun w' => w'.cell? ⟨b, off + j * 4, none⟩ = some (.int .i64 y.k) ∧ w'.cell? ⟨b, off + j * 4 + 1, none⟩ = some (.int .i64 y.i) ∧ w'.cell? ⟨b, off + j * 4 + 2, none⟩ = some (.int .i64 y.t) ∧ w'.cell? ⟨b, off + j * 4 + 3, none⟩ = some (.int .i64 y.v)) (first | exact x2 | exact x9 _ | exact x0)
        ((refine step_append_own rfl (.tmp 12) (.tmp 34) 42 rfl w.heap.size 45 i0 (.agg #[.int .i64 0, .int .i64 0, .int .i64 0, .int .i64 0]) 4 32 Try.underlying42 hi hz0 hz1 hz2 rfl (by decide) (.slice o m c) _ _ (by simp [Act.eval]) (own_new' HR.out (one_drewU wr _)) ⟨wr.heap.size, 0, none⟩ 1 1 (muCells y) (by simp [Act.eval]) rfl (u_four (heap_alloc_new wr _)) (muOne y) (by rw [HLg.out]; unfold maxLen; omega) (by rw [HLg.out]; omega) (by have := HB.out.size; simp; omega) ?_; intro v' w4 hown hgrow hat; have f4 : Fr (wr.alloc (.cells #[.int .i64 y.k, .int .i64 y.i, .int .i64 y.t, .int .i64 y.v] 45)).drew w4 (fun k => Value.ownBlock (.slice o m c) = some k) := ⟨hgrow.os, hgrow.tape, hgrow.output, hgrow.size, fun k hk hn => hgrow.block k hk (fun e => hn e.symm)⟩; have HH : Hid _ := f4; have HO : Hid _ := hown; have HA : Hid _ := hat; have x2 := UC.fr f4 (UC.new HX.out (one_drewU wr _)) (fun e => by have := (World.ownsRow.lt HR.out b e).1; have := HBl.out; omega); unfold UC at x2; clear hown hgrow hat f4))
      all_goals
        have hM4 : RO w4 w.heap.size v' (L.take (j + 1)) := by
          unfold RO
          rw [HS.out, mu_snoc, List.length_append]
          exact HO.out
        have hB4 : Below w.heap.size w w4 := (HB.out.trans ((one_drewU wr _).mono HB.out.size)).trans (HH.out.below (HB.out.trans ((one_drewU wr _).mono HB.out.size)).size (fun k hk => (World.ownsRow.lt HR.out k hk).1))
        obtain ⟨o', m', c', rfl⟩ := own_anyU hM4
        have HM4 : Hid _ := hM4
        have HB4 : Hid _ := hB4
        clear hM4 hB4 x0 x2 x9
        go_wp2
        go_roundw
        case rel => exact ⟨j + 1, _, _, _, by omega, rfl, by go_num, HM4.out, HB4.out⟩
        case measure => simp [intOf]; omega
    · obtain rfl : j = L.length := by omega
      rw [List.take_length] at hR
      have HR : Hid _ := hR
      have HB : Hid _ := hb
      clear hR hb
      go_wp2
      go_ret
      exact ⟨_, rfl, HR.out, HB.out⟩
end Go.Proofs.Ythnhmhjcpdomcaa
end

section
/- MutParts: the walk. -/
namespace Go.Proofs.Ythnhmhjcpdomcaa
open Go.RowKit Go.Sort
theorem filt_step {L : List Mu} {j : Nat} (h : j < L.length) (q : Mu → Bool) : (L.take (j + 1)).filter q = (L.take j).filter q ++ (if q L[j] then [L[j]] else []) := by
  rw [List.take_succ_eq_append_getElem h, List.filter_append]
  congr 1
  rw [List.filter_cons]
  split <;> rfl
theorem apply_nn {w : World} {P Q : Nat → Prop} {ao bo : Option Addr} (G : List Vx) (cap : Nat) (L : List Mu) (cap2 : Nat) {gn n : Nat} (hgn : G.length = gn) (hn : L.length = n) (hG : VxAt w P ao G) (hok : ∀ v ∈ G, v.ok) (hf : Fine G) {N : Nat} (hu : Up N G) (hN : N + n ≤ 1073741824) (hL : UsAt w Q bo L) (hk : ∀ m ∈ L, 1 ≤ m.k ∧ m.k ≤ 4) :
    Calls Try.prog 16 #[.agg #[.slice ao gn cap], .slice bo n cap2] w fun r w' => ∃ so sm sc, r = .returned (.tuple #[.agg #[.slice so sm sc], .int .i64 (appG G L).2]) ∧ sm = (appG G L).1.length ∧ VxAt w' (fun k => w.heap.size ≤ k ∧ k < w'.heap.size) so (appG G L).1 ∧ Below w.heap.size w w' := by
  subst hn hgn
  refine (apply_any G cap L cap2 hG hok hf hu hN hL hk).mono ?_
  rintro r w' ⟨sv, M, rfl, h1, h2, h3⟩
  obtain ⟨so, sc, rfl, hV⟩ := h2.at_
  rw [h1] at hV
  exact ⟨so, _, sc, rfl, by rw [← h1, List.length_map], hV.mono (fun k hk hp => ⟨hp, hk⟩), h3⟩
theorem of_nn {w : World} {P : Nat → Prop} {ao : Option Addr} (G : List Vx) (cap : Nat) (part parts : Int) {gn : Nat} (hgn : gn = G.length) (h : VxAt w P ao G) (hok : ∀ v ∈ G, v.ok) (hl : G.length * 40 ≤ 140737488355328) (hp : I64 parts) :
    Calls Try.prog 22 #[.agg #[.slice ao gn cap], .int .i64 part, .int .i64 parts] w fun r w' => ∃ so sm sc, r = .returned (.agg #[.slice so sm sc]) ∧ sm = (partG G parts part).length ∧ VxAt w' (fun k => w.heap.size ≤ k ∧ k < w'.heap.size) so (partG G parts part) ∧ Below w.heap.size w w' := by
  subst hgn
  refine (of6_any G cap part parts h hok hl hp).mono ?_
  rintro r w' ⟨sv, M, rfl, h1, h2, h3⟩
  obtain ⟨so, sc, rfl, hV⟩ := h2.at_
  rw [h1] at hV
  exact ⟨so, _, sc, rfl, by rw [← h1, List.length_map], hV.mono (fun k hk hp => ⟨hp, hk⟩), h3⟩
theorem refpart_s (id parts : Int) (w : World) (hp : I64 parts) : Calls Try.prog 23 #[.int .i64 id, .int .i64 parts] w fun r w' => r = .returned (.int .i64 (partN id parts)) ∧ w = w' := (refpart_any id parts w hp).mono (fun _ _ h => ⟨h.1, h.2.symm⟩)
theorem twoNewP {W w1 : World} (hb : Below W.heap.size W w1) {a b c d : Nat} {u v : Value} (h : W.cell? ⟨a, b, none⟩ = some u ∧ W.cell? ⟨c, d, none⟩ = some v) : w1.cell? ⟨a, b, none⟩ = some u ∧ w1.cell? ⟨c, d, none⟩ = some v :=
  ⟨(hb.cell (p := ⟨a, b, none⟩) (lt_cell h.1)).trans h.1, (hb.cell (p := ⟨c, d, none⟩) (lt_cell h.2)).trans h.2⟩
theorem same_n {w : World} {P Q : Nat → Prop} {ao bo : Option Addr} {L : List Vx} {n m : Nat} (ca cb : Nat) (hn : n = L.length) (hm : m = L.length) (hL : VxAt w P ao L) (hM : VxAt w Q bo L) (hl : L.length ≤ 9223372036854775807) (hok : ∀ v ∈ L, v.es.length ≤ 9223372036854775807) :
    Calls Try.prog 21 #[.agg #[.slice ao n ca], .agg #[.slice bo m cb]] w fun r w' => r = .returned (.bool true) ∧ Below w.heap.size w w' := by
  subst hn hm
  have h := same_any ca cb hL hM hl hok
  rw [(sameG_iff L L).2 rfl] at h
  exact h
/-- What the inner loop holds: X is the memory behind 'of'. -/
structure PI (X wx : World) (v sv : Value) (D : List Mu) : Prop where
  row : UO wx X.heap.size v D
  box : wx.heap[X.heap.size + 1]? = some (.cells #[sv] 24 (0, 0))
  low : Below X.heap.size X wx
theorem uo_box {W : World} {base : Nat} {v : Value} {D : List Mu} (h : UO W base v D) {b : Nat} {sv : Value} (hb : W.heap[b]? = some (.cells #[sv] 24 (0, 0))) : v.ownBlock ≠ some b := by
  intro e
  rcases h.2 with ⟨rfl, _⟩ | ⟨g, cap, cur, rfl, _, hg, _⟩
  · cases e
  · cases e
    rw [hg] at hb
    cases hb
set_option maxRecDepth 100000 in
set_option maxHeartbeats 2000000 in
theorem mparts_good {w : World} {P Q : Nat → Prop} {ao bo : Option Addr} (G : List Vx) (cap : Nat) (L : List Mu) (cap2 : Nat) (parts : Int) (h : VxAt w P ao G) (hok : ∀ v ∈ G, v.ok) (hL : UsAt w Q bo L) (hmo : ∀ m ∈ L, m.ok) (hz : chk G = 0) (hl : L.length ≤ 60) (hp1 : 1 ≤ parts) (hp2 : parts ≤ 16) :
    Calls Try.prog 6 #[.agg #[.slice ao G.length cap], .slice bo L.length cap2, .int .i64 parts] w fun r w' => r = .returned (.bool true) ∧ Below w.heap.size w w' := by
  obtain ⟨i0, hi, hz0, hz1, hz2⟩ := info_parts infoMu
  have HG : Hid (∀ W, Below w.heap.size w W → VxAt W P ao G) := fun W hb => h.new hb
  have HL : Hid (∀ W, Below w.heap.size w W → UsAt W Q bo L) := fun W hb => hL.new hb
  have HOk : Hid (∀ v ∈ G, v.ok) := hok
  have HMo : Hid (∀ m ∈ L, m.ok) := hmo
  have HS0 : Hid _ := OB.start w ao G.length cap
  have HC : Hid _ := hz
  have HFi : Hid _ := fine_of hz
  have HUp : Hid _ := up_of hz hok
  have hGl : G.length ≤ 256 := (rise_of hz).1
  obtain ⟨n, hn⟩ : ∃ n, L.length = n := ⟨_, rfl⟩
  rw [hn] at hl ⊢
  have HN : Hid (L.length = n) := hn
  clear h hok hL hmo hz hn
  have hn60 : ¬ (60 : Int) < n := by omega
  have hpn1 : ¬ parts < 1 := by omega
  have hpn2 : ¬ 16 < parts := by omega
  go_enter Try.func6, Try.ntmps6
  go_wp2_with (first
    | (go_at_call 13; refine (ref_any G cap (HG.out _ hS1.low) HOk.out (by omega)).mono ?_; rintro r' w2 ⟨bo2, c2, rfl, hV2, hb2⟩; have hS2 := hS1.new hb2)
    | (go_at_call 14; refine (refcheck_any c2 hV2 (by omega) HOk.out).mono ?_; rintro r' w3 ⟨rfl, hb3⟩; rw [HC.out]; have hS3 := hS2.new hb3; have HS3 : Hid _ := hS3)
    | (go_at_call 15; refine (awake6 _).mono ?_; rintro r w1 ⟨rfl, hb1⟩; have hS1 := OB.new HS0.out hb1; have x1 := hS1.cell))
  clear hS2 hS3 hV2 hb2 hb3 hS1 x1 hb1
  go_loopw [7] (fun i wr => ∃ j : Nat, j ≤ n ∧ i = .int .i64 j ∧ OB w wr ao G.length cap ∧ Hid (∀ q (hq : q < L.length), q < j → 1 ≤ L[q].k ∧ L[q].k ≤ 4)) (fun i _ => n - (intOf i).toNat)
  case atStart => exact ⟨0, Nat.zero_le _, rfl, HS3.out, fun q _ hq => absurd hq (by omega)⟩
  case round =>
    obtain ⟨j, hj, rfl, hO, hK⟩ := hrel
    clear HS3
    by_cases hlt : j < n
    · have hLn := HN.out
      obtain ⟨b, off, rfl, hP, hc⟩ := HL.out _ hO.low (by omega)
      have hjL : j < L.length := by omega
      have ck := (hc j hjL).1
      have HKj : Hid (∀ q (hq : q < L.length), q = j → L[q].k = L[j].k) := fun q hq e => by subst e; rfl
      generalize L[j].k = kj at ck HKj
      have HO : Hid _ := hO
      clear hO hc hLn
      by_cases hk1 : kj < 1
      · go_wp2_with (go_at_call 15; refine (awake6 _).mono ?_; rintro r' w4 ⟨rfl, hb4⟩; have hS4 := HO.out.new hb4)
        go_ret
        exact ⟨rfl, hS4.low⟩
      · by_cases hk4 : 4 < kj
        · go_wp2_with (go_at_call 15; refine (awake6 _).mono ?_; rintro r' w4 ⟨rfl, hb4⟩; have hS4 := HO.out.new hb4)
          go_ret
          exact ⟨rfl, hS4.low⟩
        · go_wp2
          go_roundw
          case rel => exact ⟨j + 1, by omega, by go_num, HO.out, fun q hq hqj => by
            by_cases e : q = j
            · rw [HKj.out q hq e]; omega
            · exact hK.out q hq (by omega)⟩
          case measure => simp [intOf]; omega
    · obtain rfl : j = n := by omega
      have HKa : Hid (∀ m ∈ L, 1 ≤ m.k ∧ m.k ≤ 4) := fun x hx => by
        obtain ⟨q, hq, rfl⟩ := List.getElem_of_mem hx
        exact hK.out q hq (by have := HN.out; omega)
      have HO : Hid _ := hO
      have o1 := hO.cell
      clear hO hK
      go_wp2_with (first
        | (go_at_call 16; refine (apply_nn (w := wr) G cap L cap2 rfl HN.out (HG.out _ HO.out.low) HOk.out HFi.out HUp.out (by omega) (HL.out _ HO.out.low) HKa.out).mono ?_; rintro r' w5 ⟨so, sm, sc, rfl, hsm, hV5, hb5⟩; have HSm : Hid _ := hsm; have HV5 : Hid _ := hV5; have HB5 : Hid _ := hb5; clear hsm hV5 hb5))
      have hAl := appG_cnt G L
      have HAf : Hid _ := appG_fine HFi.out L
      have HAu : Hid _ := appG_up HFi.out HUp.out L
      have HAo : Hid _ := appG_okk HFi.out HUp.out HOk.out HMo.out (by have := HN.out; omega)
      have HCn : Hid (∀ k : Nat, (k : Int) = parts → cntQ (fun m => decide (partN m.i parts < k)) G (thatC L) = (appG G L).2) := fun k hk => cnt_end G L hp1 hk
      have HPt : Hid (∀ p : Int, appG (partG G parts p) (L.filter (askQ parts p)) = (partG (appG G L).1 parts p, cntQ (askQ parts p) G (thatC L))) := fun p => appG_part HFi.out L parts p
      have HCle : Hid ((thatC L).length ≤ j) := by have := thatC_len L; have := HN.out; show _ ≤ _; omega
      generalize (appG G L).1 = AG at HSm HV5 HAf HAu HAo HPt
      generalize (appG G L).2 = an at hAl HCn ⊢
      generalize thatC L = CC at HCn HPt HCle
      obtain ⟨W6, hW6⟩ : ∃ W6, w5.alloc (.cells #[.slice so sm sc] 24) = W6 := ⟨_, rfl⟩
      have hb6 : Below w5.heap.size w5 W6 := by rw [← hW6]; exact one_new _ _
      have HS6 : Hid _ := (HO.out.new HB5.out).new hb6
      have HV6 : Hid _ := VxAt.new HV5.out hb6
      have hbx6 : W6.heap[w5.heap.size]? = some (.cells #[.slice so sm sc] 24 (0, 0)) := by rw [← hW6]; exact heap_alloc_new _ _
      have HX6 : Hid _ := hbx6
      clear hb6 hbx6 HO o1 HB5 HV5
      simp only [hW6]
      clear hW6
      go_loopw [10, 11] (fun u i wr => ∃ p k : Nat, (p : Int) ≤ parts ∧ u = .int .i64 k ∧ i = .int .i64 p ∧ Hid (k = cntQ (fun m => decide (partN m.i parts < p)) G CC) ∧ Below W6.heap.size W6 wr) (fun _ i _ => (parts - intOf i).toNat)
      case atStart => exact ⟨0, 0, by omega, rfl, rfl, (cnt_zero G CC hp1).symm, Below.refl _ _⟩
      case round =>
        obtain ⟨p, k, hpp, rfl, rfl, HK1, hbL⟩ := hrel
        by_cases hlp : (p : Int) < parts
        · have hk60 : k ≤ 60 := by have h1 := HK1.out; have h2 := cntQ_le (fun m => decide (partN m.i parts < p)) CC G; have := HCle.out; omega
          have o7 := (HS6.out.new hbL).cell
          have HB7 : Hid _ := hbL
          clear hbL
          go_wp2_with (go_at_call 22; refine (of_nn (w := wr) G cap p parts rfl (HG.out _ (HS6.out.new HB7.out).low) HOk.out (by omega) ⟨by omega, by omega⟩).mono ?_; rintro r' w8 ⟨so8, sm8, sc8, rfl, hsm8, hV8, hb8⟩; have HSm8 : Hid _ := hsm8; have HV8 : Hid _ := hV8; have HB8 : Hid _ := hb8; clear hsm8 hV8 hb8)
          have HL8 : Hid (Below w.heap.size w w8) := (HS6.out.new HB7.out).low.trans (HB8.out.mono (HS6.out.new HB7.out).low.size)
          obtain ⟨W9, hW9⟩ : ∃ W9, (w8.alloc (.cells #[] 38)).alloc (.cells #[.slice so8 sm8 sc8] 24) = W9 := ⟨_, rfl⟩
          have hp9 : PI w8 W9 (.slice (some ⟨w8.heap.size, 0, none⟩) 0 0) (.slice so8 sm8 sc8) [] := by
            refine ⟨by rw [← hW9]; exact own_new' (own_emptyU (Nat.le_refl _)) (one_newU _ _), ?_, by rw [← hW9]; exact b2 _ _ _⟩
            have := heap_alloc_new (w8.alloc (.cells #[] 38)) (.cells #[.slice so8 sm8 sc8] 24)
            rw [World.size_alloc, hW9] at this
            exact this
          have HP9 : Hid _ := hp9
          clear hp9 o7
          simp only [hW9]
          clear hW9
          go_loopw [13, 14] (fun u i wx => ∃ (q : Nat) (o : Option Addr) (m c : Nat), q ≤ j ∧ u = .slice o m c ∧ i = .int .i64 q ∧ PI w8 wx (.slice o m c) (.slice so8 sm8 sc8) ((L.take q).filter (askQ parts p))) (fun _ i _ => j - (intOf i).toNat)
          case atStart => exact ⟨0, _, _, _, Nat.zero_le _, rfl, rfl, HP9.out⟩
          case round =>
            obtain ⟨q, o, m, c, hq, rfl, rfl, ⟨hR, hBx, hLo⟩⟩ := hrel
            clear HP9
            have hLw : Below w.heap.size w wr := HL8.out.trans (hLo.mono HL8.out.size)
            have HR : Hid _ := hR
            have HBx : Hid _ := hBx
            have HLo : Hid _ := hLo
            have HLw : Hid _ := hLw
            by_cases hlq : q < j
            · have hqL : q < L.length := by rw [HN.out]; exact hlq
              obtain ⟨b, off, rfl, hP, hc⟩ := HL.out _ hLw (by omega)
              obtain ⟨c0, c1, c2', c3⟩ := hc q hqL
              have HF : Hid _ := filt_step hqL (askQ parts p)
              generalize L[q] = y at c0 c1 c2' c3 HF
              have HDl : Hid (((L.take q).filter (askQ parts p)).length ≤ 60) := by
                have h1 := List.length_filter_le (askQ parts p) (L.take q)
                rw [List.length_take] at h1
                show _ ≤ _
                omega
              generalize (L.take q).filter (askQ parts p) = D at HR HF HDl
              clear hR hBx hLo hLw hc
              by_cases hy : partN y.i parts = p
              · have hyb : (partN y.i parts == (p : Int)) = true := by simpa using hy
                have HF2 : Hid ((L.take (q + 1)).filter (askQ parts p) = D ++ [y]) := by show _ = _; rw [HF.out]; unfold askQ; rw [hyb]; rfl
                clear HF
                go_wp2_with (first
                  | (go_at_call 23; refine (refpart_s y.i parts _ ⟨by omega, by omega⟩).mono ?_; rw [hy]; rintro r' w10 ⟨rfl, rfl⟩)
                  | (at_builtin; refine wpList_append_own_at _ rfl _ _ 35 rfl w8.heap.size 38 i0 (.agg #[.int .i64 0, .int .i64 0, .int .i64 0, .int .i64 0]) 4 32 Try.underlying35 hi hz0 hz1 hz2 rfl (by decide) _ _ _ rfl (own_new' HR.out (one_newU wr (.cells #[.int .i64 y.k, .int .i64 y.i, .int .i64 y.t, .int .i64 y.v] 38))) ⟨wr.heap.size, 0, none⟩ 1 1 (muCells y) rfl rfl (u_four (heap_alloc_new _ _)) (muOne y) (by have := HDl.out; unfold maxLen; omega) (by have := HDl.out; omega) (by have := HLo.out.size; simp; omega) ?_))
                intro v' w11 hown hgrow _ hat
                have f11 : Fr (wr.alloc (.cells #[.int .i64 y.k, .int .i64 y.i, .int .i64 y.t, .int .i64 y.v] 38)) w11 (fun k => Value.ownBlock (.slice o m c) = some k) := Fr.grown hgrow (fun k hk => hk)
                have hpi : PI w8 w11 v' (.slice so8 sm8 sc8) ((L.take (q + 1)).filter (askQ parts p)) := by
                  refine ⟨?_, (f11.block _ (by rw [World.size_alloc]; have := lt_of_block HBx.out; omega) (uo_box HR.out HBx.out)).trans ((Below.heap_alloc wr _ _ (lt_of_block HBx.out)).trans HBx.out), (HLo.out.alloc HLo.out.size _).trans (f11.below (HLo.out.alloc HLo.out.size _).size (fun k hk => (World.ownsRow.lt HR.out k hk).1))⟩
                  unfold UO
                  rw [HF2.out, mu_snoc, List.length_append]
                  exact hown
                obtain ⟨o', m', c', rfl⟩ := own_anyU hown
                have HPI : Hid _ := hpi
                clear hown hgrow hat f11 hpi
                go_wp2
                go_roundw
                case rel => exact ⟨q + 1, _, _, _, by omega, rfl, by go_num, HPI.out⟩
                case measure => simp [intOf]; omega
              · have hyb : (partN y.i parts == (p : Int)) = false := by simpa using hy
                have HF2 : Hid ((L.take (q + 1)).filter (askQ parts p) = D) := by show _ = _; rw [HF.out]; unfold askQ; rw [hyb]; simp
                clear HF
                generalize hpn : partN y.i parts = pn at hyb
                have hpn2 := hpn
                go_wp2_with (go_at_call 23; refine (refpart_s y.i parts _ ⟨by omega, by omega⟩).mono ?_; rw [hpn2]; rintro r' w10 ⟨rfl, rfl⟩)
                go_roundw
                case rel => exact ⟨q + 1, _, _, _, by omega, rfl, by go_num, ⟨by rw [HF2.out]; exact HR.out, HBx.out, HLo.out⟩⟩
                case measure => simp [intOf]; omega
            · obtain rfl : q = j := by omega
              have hfl : L.take q = L := by rw [← HN.out, List.take_length]
              rw [hfl] at HR
              obtain ⟨hU, hmn⟩ := UO.at_ HR.out
              have HU : Hid _ := hU
              have HMn : Hid _ := hmn.symm
              have hm60 : m ≤ 60 := by have h1 := List.length_filter_le (askQ parts p) L; have := HN.out; omega
              have hbx := (cl_oneW HBx.out).1
              have HV8' : Hid (VxAt wr (fun k => True) so8 (partG G parts p)) := (VxAt.below HV8.out HLo.out (fun k _ hk => hk.2)).mono (fun _ _ _ => trivial)
              have HKp : Hid (∀ x ∈ L.filter (askQ parts p), 1 ≤ x.k ∧ x.k ≤ 4) := fun x hx => HKa.out x (List.mem_filter.1 hx).1
              have HOp : Hid (∀ v ∈ partG G parts p, v.ok) := fun v hv => HOk.out v (part_mem hv)
              have HPp := HPt.out p
              have hcp : cntQ (askQ parts p) G CC ≤ 60 := by have := cntQ_le (askQ parts p) CC G; have := HCle.out; omega
              have HCs : Hid _ := cnt_step G CC parts p
              have hW6w : Below W6.heap.size W6 wr := (HB7.out.trans (HB8.out.mono HB7.out.size)).trans (HLo.out.mono (HB7.out.trans (HB8.out.mono HB7.out.size)).size)
              have HW6w : Hid _ := hW6w
              have HPp' : Hid _ := HPp
              clear hR hBx hLo hLw hfl hU hmn HPp hW6w
              go_upto_region 23 with (first | (go_at_call 16; refine (apply_nn (w := wr) (partG G parts p) sc8 (L.filter (askQ parts p)) c HSm8.out.symm HMn.out HV8'.out HOp.out (part_fine HFi.out parts p) (part_up HUp.out parts p) (by omega) HU.out HKp.out).mono ?_; rw [HPp'.out]; rintro r' w12 ⟨so12, sm12, sc12, rfl, hsm12, hV12, hb12⟩; have HSm12 : Hid _ := hsm12; have HV12 : Hid _ := hV12; have HB12 : Hid _ := hb12; clear hsm12 hV12 hb12))
              generalize cntQ (askQ parts p) G CC = cp at hcp HCs ⊢
              obtain ⟨W13, hW13⟩ : ∃ W13, w12.alloc (.cells #[.slice so12 sm12 sc12] 24) = W13 := ⟨_, rfl⟩
              have hb13 : Below w12.heap.size w12 W13 := by rw [← hW13]; exact one_new _ _
              have hbx13 : W13.heap[w12.heap.size]? = some (.cells #[.slice so12 sm12 sc12] 24 (0, 0)) := by rw [← hW13]; exact heap_alloc_new _ _
              have hW6x : Below W6.heap.size W6 W13 := (HW6w.out.trans (HB12.out.mono HW6w.out.size)).trans (hb13.mono (HW6w.out.trans (HB12.out.mono HW6w.out.size)).size)
              have hbw13 : W13.heap[w5.heap.size]? = some (.cells #[.slice so sm sc] 24 (0, 0)) := (hW6x.block _ (lt_of_block HX6.out)).trans HX6.out
              have y0 : W13.cell? ⟨w12.heap.size, 0, none⟩ = some (.slice so12 sm12 sc12) ∧ W13.cell? ⟨w5.heap.size, 0, none⟩ = some (.slice so sm sc) := ⟨(cl_oneW hbx13).1, (cl_oneW hbw13).1⟩
              have HV13 : Hid _ := VxAt.new HV12.out hb13
              have HVw : Hid _ := VxAt.new HV6.out hW6x
              have HW6x : Hid _ := hW6x
              clear hb13 hbx13 hW6x hbw13 HV12 hbx
              simp only [hW13]
              clear hW13
              have HLA : Hid ((partG AG parts p).length ≤ 9223372036854775807) := by have h1 := List.length_filter_le (inPart parts p) AG; have h2 := HAu.out.1; have := HN.out; show _ ≤ _; unfold partG; omega
              have HOA : Hid (∀ v ∈ partG AG parts p, v.es.length ≤ 9223372036854775807) := fun v hv => by have h2 := HAu.out.2 v (part_mem hv); have := HN.out; omega
              go_region_held (fun w' => w'.cell? ⟨w12.heap.size, 0, none⟩ = some (.slice so12 sm12 sc12) ∧ w'.cell? ⟨w5.heap.size, 0, none⟩ = some (.slice so sm sc)) (first | exact y2 | exact y1 | exact y0)
                (first
                | (go_at_call 22; refine (of_nn (w := W13.drew) AG sc p parts HSm.out HVw.out HAo.out (by have h1 := HAu.out.1; have := HN.out; omega) ⟨by omega, by omega⟩).mono ?_; rintro r' w14 ⟨so14, sm14, sc14, rfl, hsm14, hV14, hb14⟩; have y1 := two_kept hb14 y0; have HSm14 : Hid _ := hsm14; have HV14 : Hid _ := hV14; have HB14 : Hid (Below W13.heap.size W13 w14) := ((Below.refl _ W13).drew).trans hb14; clear hsm14 hV14 hb14)
                | (go_at_call 21; refine (same_n (w := w14) sc12 sc14 HSm12.out HSm14.out (VxAt.new HV13.out HB14.out) HV14.out HLA.out HOA.out).mono ?_; rintro r' w15 ⟨rfl, hb15⟩; have y2 := twoNewP hb15 y1; have HB15 : Hid (Below W6.heap.size W6 w15) := (HW6x.out.trans (HB14.out.mono HW6x.out.size)).trans (hb15.mono (HW6x.out.trans (HB14.out.mono HW6x.out.size)).size); clear hb15))
              clear y0 y1 y2
              go_wp2
              go_roundw
              case rel => exact ⟨p + 1, k + cp, by omega, by go_num, by go_num, by show _ = _; rw [HCs.out, ← HK1.out], HB15.out⟩
              case measure => simp [intOf]; omega
        · have hpe : (p : Int) = parts := by omega
          have hke : k = an := by rw [HK1.out]; exact HCn.out p hpe
          subst hke
          have hb9 := hbL
          go_wp2_with (go_at_call 15; refine (awake6 _).mono ?_; rintro r' w9 ⟨rfl, hb4⟩; have hS4 := (HS6.out.new hb9).new hb4)
          go_ret
          exact ⟨by simp, hS4.low⟩
end Go.Proofs.Ythnhmhjcpdomcaa
end

section
/- How edges, vertices and graphs that came in are opened. -/
namespace Go.Proofs.Ythnhmhjcpdomcaa
open Go.RowKit Go.Deep Go.Joins Go.ChangeShapes
theorem cellsL : Try.prog.cellsOf 2 = 1 := by kernel_rfl
theorem cellsEs : Try.prog.cellsOf 82 = 1 := by kernel_rfl
theorem cellsVs : Try.prog.cellsOf 22 = 1 := by kernel_rfl
theorem cellsEd : Try.prog.cellsOf 81 = 2 := by kernel_rfl
theorem cellsVx : Try.prog.cellsOf 84 = 3 := by kernel_rfl
theorem cellsGr : Try.prog.cellsOf 24 = 1 := by kernel_rfl
theorem two_of {α : Type} {l : List α} (h : l.length = 2) : ∃ a b, l = [a, b] := by
  match l, h with
  | [a, b], _ => exact ⟨a, b, rfl⟩
theorem three_of {α : Type} {l : List α} (h : l.length = 3) : ∃ a b c, l = [a, b, c] := by
  match l, h with
  | [a, b, c], _ => exact ⟨a, b, c, rfl⟩
theorem add_none {b off : Nat} (j i : Nat) : (((⟨b, off, none⟩ : Addr).add j).add i) = ⟨b, off + j + i, none⟩ := by
  rw [add_add]
  unfold Addr.add
  split <;> simp_all <;> omega
section
variable {H : Type} {enc : TypeId × Value → H} {w : World} {base : Nat} {spare : Nat → Bool} {held : Bool}
def Ed.data (e : Ed) : DataW H := .agg [.lit (.int .i64 e.t), .lit (.int .i64 e.w)]
theorem i64_of {a : Int} (h : (Lit.int .i64 a).wf = true) : I64 a := by have := bounds_i64 h; unfold I64; omega
theorem open_ed {n : Nat} {cs : List Value} {x : DataW H × List MemPlace} (h : DataW.trod enc Try.prog w base spare held n 81 cs = some x) :
    ∃ y : Ed, cs = [.int .i64 y.t, .int .i64 y.w] ∧ x.1 = y.data ∧ y.ok := by
  obtain ⟨y0, y1, m, rfl, hl, h0, h1⟩ := trod_struct2 Try.underlying81 h
  rw [cellsEd] at hl
  obtain ⟨v0, v1, rfl⟩ := two_of hl
  simp only [cellsL] at h0 h1
  obtain ⟨a, e0, rfl, wa⟩ := DataW.trod_int Try.underlying2 h0
  obtain ⟨b, e1, rfl, wb⟩ := DataW.trod_int Try.underlying2 h1
  simp at e0 e1
  subst e0 e1
  exact ⟨⟨a, b⟩, rfl, rfl, ⟨i64_of wa, i64_of wb⟩⟩
theorem open_eds {n : Nat} {cs : List Value} {x : DataW H × List MemPlace} (h : DataW.trod enc Try.prog w base spare held n 82 cs = some x) :
    ∃ (ao : Option Addr) (cap : Nat) (L : List Ed), cs = [.slice ao L.length cap] ∧ (∀ y ∈ L, y.ok) ∧ L.length ≤ maxLen ∧ EdAt w (fun k => k < w.heap.size) ao L ∧ ((x.1 = .nil ∧ L = []) ∨ ∃ sp, x.1 = .slice (L.map Ed.data) sp) := by
  rcases open_slice Try.underlying82 h with ⟨h0, h1⟩ | ⟨a, len, cap, m, k, D, Pl, rfl, hb, hl, hm, hmm, rfl, hx⟩
  · exact ⟨none, 0, [], h0, fun y hy => (by cases hy), by simp, fun h => absurd h (by simp), Or.inl ⟨by rw [h1], rfl⟩⟩
  · have hlm : len ≤ m := by rw [hmm]; split <;> omega
    have each : ∀ i, i < len → ∃ y : Ed, w.cells? base (a.add (i * 2)) 2 = some [.int .i64 y.t, .int .i64 y.w] ∧ D i = y.data ∧ y.ok := by
      intro i hi
      obtain ⟨cs', h1, h2⟩ := hx i (by omega)
      rw [cellsEd] at h1
      obtain ⟨y, rfl, h3, h4⟩ := open_ed h2
      exact ⟨y, h1, h3, h4⟩
    haveI : Inhabited Ed := ⟨⟨0, 0⟩⟩
    obtain ⟨q, hq⟩ := choose_lt each
    have hlen : ((List.range len).map q).length = len := by simp
    refine ⟨some a, cap, (List.range len).map q, by rw [hlen], ?_, by rw [hlen]; omega, ?_, Or.inr ⟨(List.range (m - len)).map fun j => D (len + j), ?_⟩⟩
    · intro y hy
      obtain ⟨i, hi, rfl⟩ := List.mem_map.1 hy
      exact (hq i (List.mem_range.1 hi)).2.2
    · intro hpos
      rw [hlen] at hpos
      obtain ⟨_, _, hc0⟩ := World.cells?_some (hq 0 hpos).1
      have hs0 := World.cell?_spot (hc0 0 (by simp))
      have hspot : a.spot = none := by simpa [Addr.add] using hs0
      obtain ⟨b, off, spot⟩ := a
      simp only at hspot
      subst hspot
      have hcell : ∀ j (_ : j < len), w.cell? ⟨b, off + j * 2, none⟩ = some (.int .i64 (q j).t) ∧ w.cell? ⟨b, off + j * 2 + 1, none⟩ = some (.int .i64 (q j).w) := by
        intro j hj
        obtain ⟨_, _, hc⟩ := World.cells?_some (hq j hj).1
        have e0 := hc 0 (by simp)
        have e1 := hc 1 (by simp)
        rw [add_none] at e0 e1
        simp at e0 e1
        exact ⟨e0, e1⟩
      refine ⟨b, off, rfl, lt_cell (hcell 0 hpos).1, ?_⟩
      intro j hj
      have hj' : j < len := by simpa using hj
      simp only [List.getElem_map, List.getElem_range]
      exact hcell j hj'
    · show DataW.slice _ _ = _
      rw [List.map_map]
      congr 1
      exact List.map_congr_left (fun i hi => (hq i (List.mem_range.1 hi)).2.1)
/-- A vertex's three cells, opened. -/
theorem open_vx {n : Nat} {cs : List Value} {x : DataW H × List MemPlace} (h : DataW.trod enc Try.prog w base spare held n 84 cs = some x) :
    ∃ (y : Vx) (eo : Option Addr) (ec : Nat) (dx : DataW H), cs = [.int .i64 y.id, .int .i64 y.val, .slice eo y.es.length ec] ∧ I64 y.id ∧ I64 y.val ∧ (∀ e ∈ y.es, e.ok) ∧ y.es.length ≤ maxLen ∧ EdAt w (fun k => k < w.heap.size) eo y.es ∧ x.1 = .agg [.lit (.int .i64 y.id), .lit (.int .i64 y.val), dx] ∧ ((dx = .nil ∧ y.es = []) ∨ ∃ sp, dx = .slice (y.es.map Ed.data) sp) := by
  obtain ⟨y0, y1, y2, m, rfl, hl, h0, h1, h2⟩ := trod_struct3 Try.underlying84 h
  rw [cellsVx] at hl
  obtain ⟨v0, v1, v2, rfl⟩ := three_of hl
  simp only [cellsL, cellsEs] at h0 h1 h2
  obtain ⟨a, e0, rfl, wa⟩ := DataW.trod_int Try.underlying2 h0
  obtain ⟨b, e1, rfl, wb⟩ := DataW.trod_int Try.underlying2 h1
  obtain ⟨ao, cap, L, hcs, hok, hm, hE, hd⟩ := open_eds h2
  simp at e0 e1 hcs
  subst e0 e1 hcs
  exact ⟨⟨a, b, L⟩, ao, cap, y2.1, rfl, i64_of wa, i64_of wb, hok, hm, hE, rfl, hd⟩
end
end Go.Proofs.Ythnhmhjcpdomcaa
end

section
/- How a graph that came in is opened, with its bounds. -/
namespace Go.Proofs.Ythnhmhjcpdomcaa
open Go.RowKit Go.Deep Go.Joins Go.ChangeShapes
theorem bytesEd : Try.prog.bytesOf 81 = 16 := by kernel_rfl
theorem bytesVx : Try.prog.bytesOf 84 = 40 := by kernel_rfl
theorem mem_weightsAll {H : Type} {P : Program} {e : TypeId} : ∀ {ds : List (DataW H)} {d : DataW H} {n : Nat}, d ∈ ds → n ∈ d.weights P e → n ∈ DataW.weightsAll P e ds
  | [], _, _, h, _ => by cases h
  | d0 :: ds, d, n, h, hn => by
    simp only [DataW.weightsAll, List.mem_append]
    rcases List.mem_cons.1 h with rfl | h
    · exact Or.inl hn
    · exact Or.inr (mem_weightsAll h hn)
section
variable {H : Type} {enc : TypeId × Value → H} {w : World} {base : Nat} {spare : Nat → Bool} {held : Bool}
theorem vx_weight {y : Vx} {dx : DataW H} (hd : (dx = .nil ∧ y.es = []) ∨ ∃ sp, dx = .slice (y.es.map Ed.data) sp) (hw : ∀ m ∈ (DataW.agg [.lit (.int .i64 y.id), .lit (.int .i64 y.val), dx] : DataW H).weights Try.prog 84, m ≤ reachBytes) : y.es.length ≤ 8796093022208 := by
  rcases hd with ⟨_, h⟩ | ⟨sp, rfl⟩
  · rw [h]; simp
  · have := hw ((y.es.length + sp.length) * 16) (by
      have hu := Try.underlying84
      have hv := Try.underlying82
      simp [DataW.weights, DataW.weightsEach, hu, hv, bytesEd])
    unfold reachBytes at this
    omega
theorem open_vs {n : Nat} {cs : List Value} {x : DataW H × List MemPlace} (h : DataW.trod enc Try.prog w base spare held n 22 cs = some x) (hw : ∀ m ∈ x.1.weights Try.prog 22, m ≤ reachBytes) :
    ∃ (ao : Option Addr) (cap : Nat) (G : List Vx), cs = [.slice ao G.length cap] ∧ (∀ y ∈ G, y.ok) ∧ G.length * 40 ≤ 140737488355328 ∧ VxAt w (fun k => k < w.heap.size) ao G := by
  rcases open_slice Try.underlying22 h with ⟨h0, h1⟩ | ⟨a, len, cap, m, k, D, Pl, rfl, hb, hl, hm, hmm, rfl, hx⟩
  · exact ⟨none, 0, [], h0, fun y hy => (by cases hy), by simp, fun h => absurd h (by simp)⟩
  · have hlm : len ≤ m := by rw [hmm]; split <;> omega
    have hv := Try.underlying22
    have hlen40 : len * 40 ≤ 140737488355328 := by
      have := hw ((((List.range len).map D).length + ((List.range (m - len)).map fun j => D (len + j)).length) * 40) (by simp [DataW.weights, hv, bytesVx])
      unfold reachBytes at this
      simp only [List.length_map, List.length_range] at this
      omega
    have each : ∀ i, i < len → ∃ y : Vx, (∃ eo ec, w.cells? base (a.add (i * 3)) 3 = some [.int .i64 y.id, .int .i64 y.val, .slice eo y.es.length ec] ∧ EdAt w (fun k => k < w.heap.size) eo y.es) ∧ y.ok := by
      intro i hi
      obtain ⟨cs', h1, h2⟩ := hx i (by omega)
      rw [cellsVx] at h1
      obtain ⟨y, eo, ec, dx, rfl, hid, hvl, hes, _, hE, hD, hd⟩ := open_vx h2
      refine ⟨y, ⟨eo, ec, h1, hE⟩, hid, hvl, hes, vx_weight hd (fun m hm => hw m ?_)⟩
      simp only [DataW.weights, hv]
      refine List.mem_cons_of_mem _ (List.mem_append_left _ (mem_weightsAll (d := D i) (List.mem_map.2 ⟨i, List.mem_range.2 hi, rfl⟩) ?_))
      have hD' : D i = _ := hD
      rw [hD']
      exact hm
    haveI : Inhabited Vx := ⟨⟨0, 0, []⟩⟩
    obtain ⟨q, hq⟩ := choose_lt each
    have hlen : ((List.range len).map q).length = len := by simp
    refine ⟨some a, cap, (List.range len).map q, by rw [hlen], ?_, by rw [hlen]; exact hlen40, ?_⟩
    · intro y hy
      obtain ⟨i, hi, rfl⟩ := List.mem_map.1 hy
      exact (hq i (List.mem_range.1 hi)).2
    · intro hpos
      rw [hlen] at hpos
      obtain ⟨eo0, ec0, hq0, _⟩ := (hq 0 hpos).1
      obtain ⟨_, _, hc0⟩ := World.cells?_some hq0
      have hs0 := World.cell?_spot (hc0 0 (by simp))
      have hspot : a.spot = none := by simpa [Addr.add] using hs0
      obtain ⟨b, off, spot⟩ := a
      simp only at hspot
      subst hspot
      have hcell : ∀ j (_ : j < len), VxCell w (fun k => k < w.heap.size) b (off + j * 3) (q j) := by
        intro j hj
        obtain ⟨eo, ec, hqj, hE⟩ := (hq j hj).1
        obtain ⟨_, _, hc⟩ := World.cells?_some hqj
        have e0 := hc 0 (by simp)
        have e1 := hc 1 (by simp)
        have e2 := hc 2 (by simp)
        rw [add_none] at e0 e1 e2
        simp at e0 e1 e2
        exact ⟨eo, ec, e0, e1, e2, hE⟩
      refine ⟨b, off, rfl, ?_, ?_⟩
      · obtain ⟨_, _, e0, _⟩ := hcell 0 hpos
        exact lt_cell e0
      · intro j hj
        have hj' : j < len := by simpa using hj
        simp only [List.getElem_map, List.getElem_range]
        exact hcell j hj'
theorem open_gr {n : Nat} {cs : List Value} {x : DataW H × List MemPlace} (h : DataW.trod enc Try.prog w base spare held n 24 cs = some x) (hw : ∀ m ∈ x.1.weights Try.prog 24, m ≤ reachBytes) :
    ∃ (ao : Option Addr) (cap : Nat) (G : List Vx), cs = [.slice ao G.length cap] ∧ (∀ y ∈ G, y.ok) ∧ G.length * 40 ≤ 140737488355328 ∧ VxAt w (fun k => k < w.heap.size) ao G := by
  obtain ⟨y0, m, rfl, hl, h0⟩ := trod_struct1 Try.underlying24 h
  rw [cellsGr] at hl
  obtain ⟨v0, rfl⟩ : ∃ v, cs = [v] := List.length_eq_one_iff.1 hl
  simp only [cellsVs] at h0
  refine open_vs (x := y0) (by simpa using h0) (fun k hk => hw k ?_)
  have hu := Try.underlying24
  simp [DataW.weights, DataW.weightsEach, hu]
  exact hk
end
end Go.Proofs.Ythnhmhjcpdomcaa
end

section
/- How requests that came in are opened. -/
namespace Go.Proofs.Ythnhmhjcpdomcaa
open Go.RowKit Go.Deep Go.Joins Go.ChangeShapes
theorem u_cellsI : Try.prog.cellsOf 3 = 1 := by kernel_rfl
theorem u_cellsI6 : Try.prog.cellsOf 2 = 1 := by kernel_rfl
theorem u_cellsM : Try.prog.cellsOf 38 = 4 := by kernel_rfl
theorem u_bytesM : Try.prog.bytesOf 38 = 32 := by kernel_rfl
theorem u_four_of {α : Type} {l : List α} (h : l.length = 4) : ∃ a b c d, l = [a, b, c, d] := by
  match l, h with
  | [a, b, c, d], _ => exact ⟨a, b, c, d, rfl⟩
theorem u_add_none {b off : Nat} (j i : Nat) : (((⟨b, off, none⟩ : Addr).add j).add i) = ⟨b, off + j + i, none⟩ := by
  rw [add_add]
  unfold Addr.add
  split <;> simp_all <;> omega
section
variable {H : Type} {enc : TypeId × Value → H} {w : World} {base : Nat} {spare : Nat → Bool} {held : Bool}
def uData (m : Mu) : DataW H := .agg [.lit (.int .i64 m.k), .lit (.int .i64 m.i), .lit (.int .i64 m.t), .lit (.int .i64 m.v)]
theorem u_i64_of {a : Int} (h : (Lit.int .i64 a).wf = true) : I64 a := by have := bounds_i64 h; unfold I64; omega
theorem open_mu {n : Nat} {cs : List Value} {x : DataW H × List MemPlace} (h : DataW.trod enc Try.prog w base spare held n 38 cs = some x) :
    ∃ y : Mu, cs = muCells y ∧ x.1 = uData y ∧ y.ok := by
  obtain ⟨y0, y1, y2, y3, m, rfl, hl, h0, h1, h2, h3⟩ := trod_struct4 Try.underlying38 h
  rw [u_cellsM] at hl
  obtain ⟨v0, v1, v2, v3, rfl⟩ := u_four_of hl
  simp only [u_cellsI, u_cellsI6] at h0 h1 h2 h3
  obtain ⟨a, e0, rfl, wa⟩ := DataW.trod_int Try.underlying3 h0
  obtain ⟨b, e1, rfl, wb⟩ := DataW.trod_int Try.underlying2 h1
  obtain ⟨c, e2, rfl, wc⟩ := DataW.trod_int Try.underlying2 h2
  obtain ⟨d, e3, rfl, wd⟩ := DataW.trod_int Try.underlying2 h3
  simp at e0 e1 e2 e3
  subst e0 e1 e2 e3
  exact ⟨⟨a, b, c, d⟩, rfl, rfl, ⟨u_i64_of wa, u_i64_of wb, u_i64_of wc, u_i64_of wd⟩⟩
theorem open_mus {n : Nat} {cs : List Value} {x : DataW H × List MemPlace} (h : DataW.trod enc Try.prog w base spare held n 35 cs = some x) :
    ∃ (ao : Option Addr) (cap : Nat) (L : List Mu), cs = [.slice ao L.length cap] ∧ (∀ y ∈ L, y.ok) ∧ L.length ≤ cap ∧ (ao = none → cap = 0) ∧ UsAt w (fun k => k < w.heap.size) ao L ∧ ((x.1 = .nil ∧ L = []) ∨ ∃ sp, x.1 = .slice (L.map uData) sp) := by
  rcases open_slice Try.underlying35 h with ⟨h0, h1⟩ | ⟨a, len, cap, m, k, D, Pl, rfl, hb, hl, hm, hmm, rfl, hx⟩
  · exact ⟨none, 0, [], h0, fun y hy => (by cases hy), by simp, fun _ => rfl, fun h => absurd h (by simp), Or.inl ⟨by rw [h1], rfl⟩⟩
  · have hlm : len ≤ m := by rw [hmm]; split <;> omega
    have each : ∀ i, i < len → ∃ y : Mu, w.cells? base (a.add (i * 4)) 4 = some (muCells y) ∧ D i = uData y ∧ y.ok := by
      intro i hi
      obtain ⟨cs', h1, h2⟩ := hx i (by omega)
      rw [u_cellsM] at h1
      obtain ⟨y, rfl, h3, h4⟩ := open_mu h2
      exact ⟨y, h1, h3, h4⟩
    haveI : Inhabited Mu := ⟨⟨0, 0, 0, 0⟩⟩
    obtain ⟨q, hq⟩ := choose_lt each
    have hlen : ((List.range len).map q).length = len := by simp
    refine ⟨some a, cap, (List.range len).map q, by rw [hlen], ?_, by rw [hlen]; exact hl, fun h => (by cases h), ?_, Or.inr ⟨(List.range (m - len)).map fun j => D (len + j), ?_⟩⟩
    · intro y hy
      obtain ⟨i, hi, rfl⟩ := List.mem_map.1 hy
      exact (hq i (List.mem_range.1 hi)).2.2
    · intro hpos
      rw [hlen] at hpos
      obtain ⟨_, _, hc0⟩ := World.cells?_some (hq 0 hpos).1
      have hs0 := World.cell?_spot (hc0 0 (by simp))
      have hspot : a.spot = none := by simpa [Addr.add] using hs0
      obtain ⟨b, off, spot⟩ := a
      subst hspot
      have cells : ∀ j (hj : j < len), w.cell? ⟨b, off + j * 4, none⟩ = some (.int .i64 (q j).k) ∧ w.cell? ⟨b, off + j * 4 + 1, none⟩ = some (.int .i64 (q j).i) ∧ w.cell? ⟨b, off + j * 4 + 2, none⟩ = some (.int .i64 (q j).t) ∧ w.cell? ⟨b, off + j * 4 + 3, none⟩ = some (.int .i64 (q j).v) := by
        intro j hj
        obtain ⟨_, _, hc⟩ := World.cells?_some (hq j hj).1
        have g0 := hc 0 (by simp)
        have g1 := hc 1 (by simp)
        have g2 := hc 2 (by simp)
        have g3 := hc 3 (by simp)
        rw [u_add_none] at g0 g1 g2 g3
        exact ⟨g0, g1, g2, g3⟩
      refine ⟨b, off, rfl, lt_cell (cells 0 hpos).1, fun j hj => ?_⟩
      rw [hlen] at hj
      have hcj := cells j hj
      unfold UC
      simpa using hcj
    · apply congrArg (fun l => DataW.slice l _)
      rw [List.map_map]
      refine List.map_congr_left fun i hi => ?_
      exact (hq i (List.mem_range.1 hi)).2.1
end
end Go.Proofs.Ythnhmhjcpdomcaa
end
