import Derived.Test.YthnhmhjcpdomcaaMuThat
import Derived.Test.YthnhmhjcpdomcaaGrRef
import Derived.Deep.RegionHeldLaw
import Derived.Test.YthnhmhjcpdomcaaMuPut
import Derived.Test.YthnhmhjcpdomcaaMuMay
import Derived.Test.YthnhmhjcpdomcaaReader2
import Derived.Test.YthnhmhjcpdomcaaGrTakeM
import Derived.Test.YthnhmhjcpdomcaaRdRound
section
/- The law's ref: requests as the document has them; the document's Before. -/
namespace Go.Proofs.Ythnhmhjcpdomcaa
open Go.RowKit Go.Sort
/-- A row of the document's requests of one's own. -/
def RO (w : World) (base : Nat) (v : Value) (L : List Mu) : Prop := w.ownsRow base 45 4 v L.length (L.flatMap muCells)
theorem infoRMu : (Try.prog.info? 45).map (fun i => (i.zero, i.size, i.bytes)) = some (some (.agg #[.int .i64 0, .int .i64 0, .int .i64 0, .int .i64 0]), 4, 32) := by kernel_rfl
theorem RO.new {w w' : World} {base : Nat} {v : Value} {R : List Mu} (h : RO w base v R) (hb : Below w.heap.size w w') : RO w' base v R := own_new' h hb
theorem u_four {W : World} {b : Nat} {t : TypeId} {f : Nat × Nat} {y : Mu} (h : W.heap[b]? = some (.cells #[.int .i64 y.k, .int .i64 y.i, .int .i64 y.t, .int .i64 y.v] t f)) : ∀ j u, (muCells y)[j]? = some u → W.cell? ((⟨b, 0, none⟩ : Addr).add j) = some u := by
  intro j u hu
  rw [Addr.add_lit, Nat.zero_add]
  simp only [World.cell?, h]
  simpa [muCells] using hu
theorem mu_snoc (L : List Mu) (y : Mu) : (L ++ [y]).flatMap muCells = L.flatMap muCells ++ muCells y := by simp
theorem one_drewU (w : World) (o : Obj) : Below w.heap.size w (w.alloc o).drew := (one_newU w o).drew
theorem UC.fr {w w' : World} {S : Nat → Prop} (f : Fr w w' S) {g o : Nat} {x : Mu} (h : UC w g o x) (hn : ¬ S g) : UC w' g o x := ⟨fr_cell f hn h.1, fr_cell f hn h.2.1, fr_cell f hn h.2.2.1, fr_cell f hn h.2.2.2⟩
set_option maxRecDepth 100000 in
set_option maxHeartbeats 1000000 in
theorem refU_any {w : World} {P : Nat → Prop} {ao : Option Addr} (L : List Mu) (cap : Nat) (h : UsAt w P ao L) (hl : L.length ≤ 1073741824) :
    Calls Try.prog 18 #[.slice ao L.length cap] w fun r w' => ∃ v, r = .returned v ∧ RO w' w.heap.size v L ∧ Below w.heap.size w w' := by
  obtain ⟨i0, hi, hz0, hz1, hz2⟩ := info_parts infoRMu
  have HG : Hid (UsAt w P ao L) := h
  clear h
  go_enter Try.func18, Try.ntmps18
  go_wp2
  go_loopw [3, 4] (fun u i wr => ∃ (j : Nat) (o : Option Addr) (m c : Nat), j ≤ L.length ∧ u = .slice o m c ∧ i = .int .i64 j ∧ RO wr w.heap.size (.slice o m c) (L.take j) ∧ Below w.heap.size w wr) (fun _ i _ => L.length - (intOf i).toNat)
  case atStart =>
    exact ⟨0, _, _, _, Nat.zero_le _, rfl, rfl, World.ownsRow_made w #[] 0 (Nat.le_refl _) (by decide) (by simp), (Below.refl _ w).alloc (Nat.le_refl _) _⟩
  case round =>
    obtain ⟨j, o, m, c, hj, rfl, rfl, hR, hb⟩ := hrel
    by_cases hlt : j < L.length
    · obtain ⟨b, off, rfl, hP, hc⟩ := HG.out (by omega)
      have x0 := (hc j hlt).new hb
      have HS : Hid (L.take (j + 1) = L.take j ++ [L[j]]) := List.take_succ_eq_append_getElem hlt
      have HLg : Hid ((L.take j).length = j) := by show _ = _; rw [List.length_take]; omega
      generalize L[j] = y at x0 HS
      have hbl := lt_cell x0.1
      have HBl : Hid (b < w.heap.size) := lt_cell (hc j hlt).1
      have HR : Hid _ := hR
      have HB : Hid _ := hb
      have HX : Hid _ := x0
      have x9 := fun o => UC.new x0 (one_newU wr o)
      clear hc hR hb
      unfold UC at x0 x9
      go_upto_region 5 with (fail)
      go_region_held_law (fun w' => w'.cell? ⟨b, off + j * 4, none⟩ = some (.int .i64 y.k) ∧ w'.cell? ⟨b, off + j * 4 + 1, none⟩ = some (.int .i64 y.i) ∧ w'.cell? ⟨b, off + j * 4 + 2, none⟩ = some (.int .i64 y.t) ∧ w'.cell? ⟨b, off + j * 4 + 3, none⟩ = some (.int .i64 y.v)) (first | exact x2 | exact x9 _ | exact x0)
        ((refine step_append_own rfl (.tmp 12) (.tmp 34) 42 rfl w.heap.size 45 i0 (.agg #[.int .i64 0, .int .i64 0, .int .i64 0, .int .i64 0]) 4 32 Try.underlying42 hi hz0 hz1 hz2 rfl (by decide) (.slice o m c) _ _ (by simp [Act.eval]) (own_new' HR.out (one_drewU wr _)) ⟨wr.heap.size, 0, none⟩ 1 1 (muCells y) (by simp [Act.eval]) rfl (u_four (heap_alloc_new wr _)) (muOne y) (by rw [HLg.out]; unfold maxLen; omega) (by rw [HLg.out]; omega) (by have := HB.out.size; simp; omega) ?_; intro v' w4 hown hgrow hat; have f4 : Fr (wr.alloc (.cells #[.int .i64 y.k, .int .i64 y.i, .int .i64 y.t, .int .i64 y.v] 45)).drew w4 (fun k => Value.ownBlock (.slice o m c) = some k) := ⟨hgrow.os, hgrow.tape, hgrow.output, hgrow.size, fun k hk hn => hgrow.block k hk (fun e => hn e.symm)⟩; have HH : Hid _ := f4; have HO : Hid _ := hown; have HA : Hid _ := hat; have x2 := UC.fr f4 (UC.new HX.out (one_drewU wr _)) (fun e => by have := (World.ownsRow.lt HR.out b e).1; have := HBl.out; omega); unfold UC at x2; clear hown hgrow hat f4))
      all_goals
        have hM4 : RO w4 w.heap.size v' (L.take (j + 1)) := by
          unfold RO
          rw [HS.out, mu_snoc, List.length_append]
          exact HO.out
        have hB4 : Below w.heap.size w w4 := (HB.out.trans ((one_drewU wr _).mono HB.out.size)).trans (HH.out.below (HB.out.trans ((one_drewU wr _).mono HB.out.size)).size (fun k hk => (World.ownsRow.lt HR.out k hk).1))
        obtain ⟨o', m', c', rfl⟩ := own_anyU hM4
        have HM4 : Hid _ := hM4
        have HB4 : Hid _ := hB4
        clear hM4 hB4 x0 x2 x9
        go_wp2
        go_roundw
        case rel => exact ⟨j + 1, _, _, _, by omega, rfl, by go_num, HM4.out, HB4.out⟩
        case measure => simp [intOf]; omega
    · obtain rfl : j = L.length := by omega
      rw [List.take_length] at hR
      have HR : Hid _ := hR
      have HB : Hid _ := hb
      clear hR hb
      go_wp2
      go_ret
      exact ⟨_, rfl, HR.out, HB.out⟩
end Go.Proofs.Ythnhmhjcpdomcaa
end

section
/- Take: requests off bytes. -/
namespace Go.Proofs.Ythnhmhjcpdomcaa
open Go.RowKit
/-- A request, off bytes; one that may not be is an error. -/
def rdU (s : ByteArray) (a : Nat) (e : Int) : Mu × Nat × Int :=
  let c := rdCount s a e 4
  let p := rdNum s c.2.1 c.2.2
  let q := rdNum s p.2.1 p.2.2
  let r := rdNum s q.2.1 q.2.2
  (⟨c.1, unfoldN p.1, unfoldN q.1, unfoldN r.1⟩, r.2.1, if mayU ⟨c.1, unfoldN p.1, unfoldN q.1, unfoldN r.1⟩ = true then r.2.2 else rdFail r.2.2 6)
/-- So many requests behind others; none is told where there is an error. -/
def rdUs (s : ByteArray) : Nat → Nat → Int → List Mu → List Mu × Nat × Int
  | 0, a, e, L => (L, a, e)
  | n + 1, a, e, L => if (rdU s a e).2.2 = 0 then rdUs s n (rdU s a e).2.1 0 (L ++ [(rdU s a e).1]) else ([], (rdU s a e).2)
def rdUL (s : ByteArray) (a : Nat) (e : Int) : List Mu × Nat × Int :=
  let c := rdCount s a e 65536
  rdUs s c.1 c.2.1 c.2.2 []
theorem rdU_eq {s : ByteArray} {a n1 a1 t2 a2 t3 a3 t4 a4 : Nat} {e e1 e2 e3 e4 : Int} (h1 : rdCount s a e 4 = (n1, a1, e1)) (h2 : rdNum s a1 e1 = (t2, a2, e2)) (h3 : rdNum s a2 e2 = (t3, a3, e3)) (h4 : rdNum s a3 e3 = (t4, a4, e4)) :
    rdU s a e = (⟨n1, unfoldN t2, unfoldN t3, unfoldN t4⟩, a4, if mayU ⟨n1, unfoldN t2, unfoldN t3, unfoldN t4⟩ = true then e4 else rdFail e4 6) := by
  unfold rdU; simp only [h1, h2, h3, h4]
theorem u_rsg {w : World} {p : Nat} {s : ByteArray} {a : Nat} {e : Int} (h : Rd w p s a e) (hs : s.size ≤ maxLen) (ha : a ≤ s.size) {n a' : Nat} {e' k : Int} (hq : rdNum s a e = (n, a', e')) (hk : unfoldN n = k) :
    Calls Try.prog 58 #[.pointer (some ⟨p, 0, none⟩)] w fun r w' => r = .returned (.int .i64 k) ∧ Rd w' p s a' e' ∧ Fr w w' (fun k => k = p) := by
  have := rsigned_any h hs ha
  rw [hq, hk] at this
  exact this
theorem u_rct {w : World} {p : Nat} {s : ByteArray} {a : Nat} {e : Int} (most : Nat) (hm : most ≤ 65536) (h : Rd w p s a e) (hs : s.size ≤ maxLen) (ha : a ≤ s.size) {n a' : Nat} {e' : Int} (hq : rdCount s a e most = (n, a', e')) :
    Calls Try.prog 57 #[.pointer (some ⟨p, 0, none⟩), .int .i64 most] w fun r w' => r = .returned (.int .i64 n) ∧ Rd w' p s a' e' ∧ Fr w w' (fun k => k = p) := by
  have := rcount_any (most := most) h hs ha (by omega)
  rw [hq] at this
  exact this
theorem u_unf {n : Nat} (h : n < 18446744073709551616) : I64 (unfoldN n) := unfold_bd n (by omega) (by omega)
theorem UO.fr {w w' : World} {base : Nat} {v : Value} {L : List Mu} (h : UO w base v L) {S : Nat → Prop} (f : Fr w w' S) (hs : ∀ k, base ≤ k → v.ownBlock = some k → ¬ S k) : UO w' base v L := by
  refine ⟨h.1, ?_⟩
  rcases h.2 with h2 | ⟨g, cap, cur, rfl, h3, h4, h5⟩
  · exact Or.inl h2
  · refine Or.inr ⟨g, cap, cur, rfl, h3, (f.block g ?_ (hs g h3 rfl)).trans h4, h5⟩
    exact (Array.getElem?_eq_some_iff.1 h4).1
theorem UO.base {w : World} {base : Nat} {v : Value} {L : List Mu} (h : UO w base v L) : ∀ k, v.ownBlock = some k → base ≤ k ∧ k < w.heap.size := fun k hk => World.ownsRow.lt h k hk
theorem UO.shp {w : World} {base : Nat} {v : Value} {L : List Mu} (h : UO w base v L) : ∃ ao c, v = .slice ao L.length c := by
  rcases h.2 with ⟨rfl, h0⟩ | ⟨g, cap, cur, rfl, _⟩
  · exact ⟨none, 0, by rw [h0]⟩
  · exact ⟨_, _, rfl⟩
/-- Between two requests. -/
structure TU (w wr : World) (p : Nat) (s : ByteArray) (v : Value) (L : List Mu) (x : Nat) (y : Int) : Prop where
  rd : Rd wr p s x y
  fr : Fr w wr (fun k => k = p)
  own : UO wr w.heap.size v L
  plt : p < w.heap.size
theorem TU.step {w wr w1 : World} {p : Nat} {s : ByteArray} {v : Value} {L : List Mu} {x x1 : Nat} {y y1 : Int} (h : TU w wr p s v L x y) (hf : Fr wr w1 (fun k => k = p)) (hr : Rd w1 p s x1 y1) : TU w w1 p s v L x1 y1 :=
  ⟨hr, h.fr.trans hf (fun _ _ h => h), h.own.fr hf (fun k hk _ e => by have := h.plt; omega), h.plt⟩
theorem TU.new {w wr w1 : World} {p : Nat} {s : ByteArray} {v : Value} {L : List Mu} {x : Nat} {y : Int} (h : TU w wr p s v L x y) (hb : Below wr.heap.size wr w1) : TU w w1 p s v L x y :=
  ⟨h.rd.kept (Fr.ofBelow hb (fun _ => False)) (fun h => h), h.fr.trans (Fr.ofBelow hb _) (fun _ _ h => h), h.own.new hb, h.plt⟩
theorem TU.al {w wr : World} {p : Nat} {s : ByteArray} {v : Value} {L : List Mu} {x : Nat} {y : Int} (h : TU w wr p s v L x y) (o : Obj) : TU w (wr.alloc o) p s v L x y := h.new (one_newU _ _)
theorem TU.app {w wr w1 : World} {p : Nat} {s : ByteArray} {v v' : Value} {L : List Mu} {x : Nat} {y : Int} {m : Mu} (h : TU w wr p s v L x y) (hown : w1.ownsRow w.heap.size 38 4 v' (L.length + 1) (L.flatMap muCells ++ muCells m)) (hg : wr.grownBy w1 v.ownBlock) : TU w w1 p s v' (L ++ [m]) x y := by
  have f : Fr wr w1 (fun k => v.ownBlock = some k) := Fr.grown hg (fun k hk => hk)
  refine ⟨h.rd.kept f (fun e => by have := h.own.base _ e; have := h.plt; omega), ?_, ?_, h.plt⟩
  · exact h.fr.trans f (fun k hk e => by have := h.own.base k e; omega)
  · unfold UO
    rw [List.length_append, List.flatMap_append]
    simpa using hown
theorem TU.none {w wr : World} {p : Nat} {s : ByteArray} {v : Value} {L : List Mu} {x : Nat} {y : Int} (h : TU w wr p s v L x y) : TU w wr p s (.slice none 0 0) [] x y :=
  ⟨h.rd, h.fr, World.ownsRow_nil _ _ _ _, h.plt⟩
set_option maxRecDepth 100000 in
set_option maxHeartbeats 2000000 in
theorem takeU_any {w : World} {p : Nat} {s : ByteArray} {a : Nat} {e : Int} (h : Rd w p s a e) (hs : s.size ≤ maxLen) (ha : a ≤ s.size) :
    Calls Try.prog 32 #[.pointer (some ⟨p, 0, none⟩)] w fun r w' => ∃ v, r = .returned v ∧ TU w w' p s v (rdUL s a e).1 (rdUL s a e).2.1 (rdUL s a e).2.2 := by
  obtain ⟨i0, hi, hz0, hz1, hz2⟩ := info_parts infoMu
  obtain ⟨⟨n, a1, e1⟩, h1⟩ : ∃ q, rdCount s a e (65536 : Nat) = q := ⟨_, rfl⟩
  have g1 := rdCount_to (most := 65536) ha h1
  have HV : Hid (rdUL s a e = rdUs s n a1 e1 []) := by
    show _ = _
    have h1' : rdCount s a e 65536 = (n, a1, e1) := h1
    unfold rdUL; simp only [h1']
  have H1 : Hid _ := h1
  have hn := g1.2.1
  have G1 : Hid _ := g1
  rw [HV.out]
  have H : Hid _ := h
  have hlt := h.lt
  clear h1 g1 h
  go_enter Try.func32, Try.ntmps32
  go_wp2_with (go_at_call 57; refine (u_rct 65536 (by decide) H.out hs ha H1.out).mono ?_; rintro r w1 ⟨rfl, hr1, hf1⟩)
  have hTM : TU w w1 p s (.slice none 0 0) [] a1 e1 := ⟨hr1, hf1, World.ownsRow_nil _ _ _ _, hlt⟩
  clear hr1 hf1
  go_loopw [2, 3, 4, 7] (fun _ u _ i wr => ∃ (j : Nat) (L : List Mu) (x : Nat) (y : Int) (ao : Option Addr) (c : Nat), j ≤ n ∧ u = .slice ao L.length c ∧ i = .int .i64 j ∧ Hid (rdUs s n a1 e1 [] = rdUs s (n - j) x y L) ∧ Hid (x ≤ s.size ∧ L.length = j ∧ (j < n → y = 0)) ∧ TU w wr p s (.slice ao L.length c) L x y) (fun _ _ _ i _ => n - (intOf i).toNat)
  case atStart => exact ⟨0, [], a1, e1, none, 0, Nat.zero_le _, rfl, rfl, (rfl : rdUs s n a1 e1 [] = rdUs s (n - 0) a1 e1 []), ⟨G1.out.1, rfl, G1.out.2.2.2⟩, hTM⟩
  case round =>
    obtain ⟨j, L, x, y, ao, c, hj, rfl, rfl, HS, HX, hT⟩ := hrel
    clear hTM
    by_cases hjn : j < n
    · obtain rfl : y = 0 := HX.out.2.2 hjn
      obtain ⟨⟨n1, x1, y1⟩, q1⟩ : ∃ q, rdCount s x 0 (4 : Nat) = q := ⟨_, rfl⟩
      obtain ⟨⟨t2, x2, y2⟩, q2⟩ : ∃ q, rdNum s x1 y1 = q := ⟨_, rfl⟩
      obtain ⟨⟨t3, x3, y3⟩, q3⟩ : ∃ q, rdNum s x2 y2 = q := ⟨_, rfl⟩
      obtain ⟨⟨t4, x4, y4⟩, q4⟩ : ∃ q, rdNum s x3 y3 = q := ⟨_, rfl⟩
      have g1 := rdCount_to (most := 4) HX.out.1 q1
      have g2 := rdNum_to g1.1 q2
      have g3 := rdNum_to g2.1 q3
      have g4 := rdNum_to g3.1 q4
      have HM : Hid (rdU s x 0 = (⟨n1, unfoldN t2, unfoldN t3, unfoldN t4⟩, x4, if mayU ⟨n1, unfoldN t2, unfoldN t3, unfoldN t4⟩ = true then y4 else rdFail y4 6)) := rdU_eq q1 q2 q3 q4
      have HNJ : Hid (rdUs s (n - j) x 0 L = if (if mayU ⟨n1, unfoldN t2, unfoldN t3, unfoldN t4⟩ = true then y4 else rdFail y4 6) = 0 then rdUs s (n - (j + 1)) x4 0 (L ++ [⟨n1, unfoldN t2, unfoldN t3, unfoldN t4⟩]) else ([], x4, if mayU ⟨n1, unfoldN t2, unfoldN t3, unfoldN t4⟩ = true then y4 else rdFail y4 6)) := by
        show _ = _
        rw [show n - j = (n - (j + 1)) + 1 by omega]
        show (if (rdU s x 0).2.2 = 0 then _ else _) = _
        rw [HM.out]
      have Q1 : Hid _ := q1
      have Q2 : Hid _ := q2
      have Q3 : Hid _ := q3
      have Q4 : Hid _ := q4
      have GG1 : Hid _ := g1
      have GG2 : Hid _ := g2
      have GG3 : Hid _ := g3
      have GG4 : Hid _ := g4
      have HT : Hid _ := hT
      have tk1 : Hid True := trivial
      clear q1 q2 q3 q4 g1 g2 g3 g4 HM hT
      obtain ⟨k2, hk2⟩ : ∃ k2, unfoldN t2 = k2 := ⟨_, rfl⟩
      obtain ⟨k3, hk3⟩ : ∃ k3, unfoldN t3 = k3 := ⟨_, rfl⟩
      obtain ⟨k4, hk4⟩ : ∃ k4, unfoldN t4 = k4 := ⟨_, rfl⟩
      rw [hk2, hk3, hk4] at HNJ
      have K2 : Hid _ := hk2
      have K3 : Hid _ := hk3
      have K4 : Hid _ := hk4
      clear hk2 hk3 hk4
      cases hmay : mayU ⟨n1, k2, k3, k4⟩
      · have HY : Hid (rdFail y4 6 ≠ 0) := by
          show rdFail y4 6 ≠ 0
          by_cases hy : y4 = 0
          · subst hy; rw [rdFail_0]; decide
          · rw [rdFail_e hy]; exact hy
        have HNN : Hid (rdUs s n a1 e1 [] = ([], x4, rdFail y4 6)) := by
          show _ = _
          rw [HS.out, HNJ.out, hmay]
          simp only [Bool.false_eq_true, if_false]
          rw [if_neg HY.out]
        have HMY : Hid _ := hmay
        obtain ⟨y5, hy5⟩ : ∃ y5, rdFail y4 6 = y5 := ⟨_, rfl⟩
        have HF : Hid _ := hy5
        rw [hy5] at HNN HY
        clear hy5
        have hyb : (y5 != 0) = true := by simpa using HY.out
        clear HNJ hmay
        go_wp2_with (first
          | (go_at_call 57; refine (u_rct 4 (by decide) HT.out.rd hs HX.out.1 Q1.out).mono ?_; rintro r v1 ⟨rfl, hr, hf⟩; have T1 : Hid _ := HT.out.step hf hr; clear hr hf)
          | (go_at_call 58; first
            | (have _t := tk1; refine (u_rsg T1.out.rd hs GG1.out.1 Q2.out K2.out).mono ?_; rintro r v2 ⟨rfl, hr, hf⟩; have T2 : Hid _ := T1.out.step hf hr; clear tk1 hr hf; have tk2 : Hid True := trivial)
            | (have _t := tk2; refine (u_rsg T2.out.rd hs GG2.out.1 Q3.out K3.out).mono ?_; rintro r v3 ⟨rfl, hr, hf⟩; have T3 : Hid _ := T2.out.step hf hr; clear tk2 hr hf)
            | (refine (u_rsg T3.out.rd hs GG3.out.1 Q4.out K4.out).mono ?_; rintro r v4 ⟨rfl, hr, hf⟩; have T4 : Hid _ := T3.out.step hf hr; clear hr hf))
          | (go_at_call 26; refine (checkU_any ⟨n1, k2, k3, k4⟩ _).mono ?_; rintro r v5 ⟨rfl, hb⟩; rw [HMY.out]; have T5 : Hid _ := (T4.out.al (.cells #[.int .i64 n1, .int .i64 k2, .int .i64 k3, .int .i64 k4] 38)).new hb; obtain ⟨q0, q1, q2, q3⟩ := u_cellsP ((hb.block v4.heap.size (by simp)).trans (heap_alloc_new v4 (.cells #[.int .i64 n1, .int .i64 k2, .int .i64 k3, .int .i64 k4] 38))); clear hb)
          | (go_at_call 59; refine (rfail_any T5.out.rd).mono ?_; rintro r v6 ⟨rfl, hr, hf⟩; rw [HF.out] at hr; have T6 : Hid _ := T5.out.step hf hr; clear hr hf)
          | (go_at_call 33; refine (err_any T6.out.rd).mono ?_; rintro r v7 ⟨rfl, rfl⟩))
        go_ret
        refine ⟨_, rfl, ?_⟩
        rw [HNN.out]
        exact T6.out.none
      · have HMY : Hid _ := hmay
        rw [hmay] at HNJ
        simp only [if_true] at HNJ
        clear hmay
        by_cases hy : y4 = 0
        · subst hy
          have HNN : Hid (rdUs s (n - j) x 0 L = rdUs s (n - (j + 1)) x4 0 (L ++ [⟨n1, k2, k3, k4⟩])) := by show _ = _; rw [HNJ.out, if_pos rfl]
          clear HNJ
          go_wp2_with (first
            | (go_at_call 57; refine (u_rct 4 (by decide) HT.out.rd hs HX.out.1 Q1.out).mono ?_; rintro r v1 ⟨rfl, hr, hf⟩; have T1 : Hid _ := HT.out.step hf hr; clear hr hf)
            | (go_at_call 58; first
              | (have _t := tk1; refine (u_rsg T1.out.rd hs GG1.out.1 Q2.out K2.out).mono ?_; rintro r v2 ⟨rfl, hr, hf⟩; have T2 : Hid _ := T1.out.step hf hr; clear tk1 hr hf; have tk2 : Hid True := trivial)
              | (have _t := tk2; refine (u_rsg T2.out.rd hs GG2.out.1 Q3.out K3.out).mono ?_; rintro r v3 ⟨rfl, hr, hf⟩; have T3 : Hid _ := T2.out.step hf hr; clear tk2 hr hf)
              | (refine (u_rsg T3.out.rd hs GG3.out.1 Q4.out K4.out).mono ?_; rintro r v4 ⟨rfl, hr, hf⟩; have T4 : Hid _ := T3.out.step hf hr; clear hr hf))
            | (go_at_call 26; refine (checkU_any ⟨n1, k2, k3, k4⟩ _).mono ?_; rintro r v5 ⟨rfl, hb⟩; rw [HMY.out]; have T5 : Hid _ := (T4.out.al (.cells #[.int .i64 n1, .int .i64 k2, .int .i64 k3, .int .i64 k4] 38)).new hb; obtain ⟨q0, q1, q2, q3⟩ := u_cellsP ((hb.block v4.heap.size (by simp)).trans (heap_alloc_new v4 (.cells #[.int .i64 n1, .int .i64 k2, .int .i64 k3, .int .i64 k4] 38))); clear hb)
            | (go_at_call 33; refine (err_any T5.out.rd).mono ?_; rintro r v7 ⟨rfl, rfl⟩)
            | (at_builtin; refine wpList_append_own_at _ rfl _ _ 35 rfl w.heap.size 38 i0 (.agg #[.int .i64 0, .int .i64 0, .int .i64 0, .int .i64 0]) 4 32 Try.underlying35 hi hz0 hz1 hz2 rfl (by decide) (.slice ao L.length c) _ _ rfl (T5.out.al (.cells #[.int .i64 n1, .int .i64 k2, .int .i64 k3, .int .i64 k4] 38)).own ⟨v7.heap.size, 0, none⟩ 1 1 (muCells ⟨n1, k2, k3, k4⟩) rfl rfl (u_four (heap_alloc_new v7 _)) (muOne _) (by have := HX.out.2.1; unfold maxLen; omega) (by have := HX.out.2.1; omega) (by have := T5.out.fr.size; simp; omega) ?_))
          intro v' w4 hown hgrow _ hat
          have hT5 := (T5.out.al (.cells #[.int .i64 n1, .int .i64 k2, .int .i64 k3, .int .i64 k4] 38)).app hown hgrow
          obtain ⟨ao', c', rfl⟩ := UO.shp hT5.own
          have HT5 : Hid _ := hT5
          clear hT5 hown hgrow hat T1 T2 T3 T4 T5 HT q0 q1 q2 q3
          go_wp2
          go_roundw
          case rel =>
            refine ⟨j + 1, L ++ [⟨n1, k2, k3, k4⟩], x4, 0, ao', c', by omega, rfl, by go_num, ?_, ⟨GG4.out.1, by rw [List.length_append, HX.out.2.1]; rfl, fun _ => rfl⟩, HT5.out⟩
            show _ = _
            rw [HS.out, HNN.out]
          case measure => simp [intOf]; omega
        · have hyb : (y4 != 0) = true := by simpa using hy
          have HNN : Hid (rdUs s n a1 e1 [] = ([], x4, y4)) := by show _ = _; rw [HS.out, HNJ.out, if_neg hy]
          clear HNJ
          go_wp2_with (first
            | (go_at_call 57; refine (u_rct 4 (by decide) HT.out.rd hs HX.out.1 Q1.out).mono ?_; rintro r v1 ⟨rfl, hr, hf⟩; have T1 : Hid _ := HT.out.step hf hr; clear hr hf)
            | (go_at_call 58; first
              | (have _t := tk1; refine (u_rsg T1.out.rd hs GG1.out.1 Q2.out K2.out).mono ?_; rintro r v2 ⟨rfl, hr, hf⟩; have T2 : Hid _ := T1.out.step hf hr; clear tk1 hr hf; have tk2 : Hid True := trivial)
              | (have _t := tk2; refine (u_rsg T2.out.rd hs GG2.out.1 Q3.out K3.out).mono ?_; rintro r v3 ⟨rfl, hr, hf⟩; have T3 : Hid _ := T2.out.step hf hr; clear tk2 hr hf)
              | (refine (u_rsg T3.out.rd hs GG3.out.1 Q4.out K4.out).mono ?_; rintro r v4 ⟨rfl, hr, hf⟩; have T4 : Hid _ := T3.out.step hf hr; clear hr hf))
            | (go_at_call 26; refine (checkU_any ⟨n1, k2, k3, k4⟩ _).mono ?_; rintro r v5 ⟨rfl, hb⟩; rw [HMY.out]; have T5 : Hid _ := (T4.out.al (.cells #[.int .i64 n1, .int .i64 k2, .int .i64 k3, .int .i64 k4] 38)).new hb; obtain ⟨q0, q1, q2, q3⟩ := u_cellsP ((hb.block v4.heap.size (by simp)).trans (heap_alloc_new v4 (.cells #[.int .i64 n1, .int .i64 k2, .int .i64 k3, .int .i64 k4] 38))); clear hb)
            | (go_at_call 33; refine (err_any T5.out.rd).mono ?_; rintro r v7 ⟨rfl, rfl⟩))
          go_ret
          refine ⟨_, rfl, ?_⟩
          rw [HNN.out]
          exact T5.out.none
    · obtain rfl : j = n := by omega
      have HT : Hid _ := hT
      have HNN : Hid (rdUs s j a1 e1 [] = (L, x, y)) := by
        show _ = _
        rw [HS.out, Nat.sub_self]; rfl
      clear hT
      go_wp2
      go_ret
      refine ⟨_, rfl, ?_⟩
      rw [HNN.out]
      exact HT.out
end Go.Proofs.Ythnhmhjcpdomcaa
end

section
/- Requests' bytes are read again as they were, where they may be; bytes that are read as requests are just these requests'. No walk here. -/
namespace Go.Proofs.Ythnhmhjcpdomcaa
open Go.RowKit
theorem mayU_k {m : Mu} (h : mayU m = true) : 1 ≤ m.k ∧ m.k ≤ 4 := by
  unfold mayU at h
  split at h
  · omega
  · split at h
    · omega
    · split at h
      · omega
      · have : m.k = 4 := by simpa using h
        omega
theorem rdU_enc {s : ByteArray} {m : Mu} {a c : List UInt8} (h : s.data.toList = a ++ (muB m ++ c)) (hok : m.ok) (h1 : mayU m = true) : rdU s a.length 0 = (m, (a ++ muB m).length, 0) := by
  obtain ⟨k0, k1⟩ := mayU_k h1
  have e1 : s.data.toList = a ++ (numB m.k.toNat ++ (sgB m.i ++ (sgB m.t ++ (sgB m.v ++ c)))) := by rw [h]; unfold muB; simp only [List.append_assoc]
  have q1 := count_at (most := 4) e1 (by omega) (by decide)
  have e2 : s.data.toList = (a ++ numB m.k.toNat) ++ (sgB m.i ++ (sgB m.t ++ (sgB m.v ++ c))) := by rw [e1]; simp only [List.append_assoc]
  have q2 := num_at (n := (foldN m.i).toNat) e2 (fold_lt hok.i)
  have e3 : s.data.toList = (a ++ numB m.k.toNat ++ sgB m.i) ++ (sgB m.t ++ (sgB m.v ++ c)) := by rw [e1]; simp only [List.append_assoc]
  have q3 := num_at (n := (foldN m.t).toNat) e3 (fold_lt hok.t)
  have e4 : s.data.toList = (a ++ numB m.k.toNat ++ sgB m.i ++ sgB m.t) ++ (sgB m.v ++ c) := by rw [e1]; simp only [List.append_assoc]
  have q4 := num_at (n := (foldN m.v).toNat) e4 (fold_lt hok.v)
  rw [rdU_eq q1 q2 q3 q4, sg_back hok.i, sg_back hok.t, sg_back hok.v]
  have ea : ((m.k.toNat : Nat) : Int) = m.k := by omega
  rw [ea]
  have el : a ++ muB m = a ++ numB m.k.toNat ++ sgB m.i ++ sgB m.t ++ sgB m.v := by unfold muB; simp only [List.append_assoc]
  rw [el]
  rw [if_pos h1]
  rfl
/-- A request that may not be, of a kind that is not below 0, is refused. -/
theorem rdU_bad {s : ByteArray} {m : Mu} {a c : List UInt8} (h : s.data.toList = a ++ (muB m ++ c)) (hok : m.ok) (h0 : 0 ≤ m.k) (h1 : mayU m = false) : (rdU s a.length 0).2.2 ≠ 0 := by
  have e1 : s.data.toList = a ++ (numB m.k.toNat ++ (sgB m.i ++ (sgB m.t ++ (sgB m.v ++ c)))) := by rw [h]; unfold muB; simp only [List.append_assoc]
  by_cases h4 : m.k.toNat ≤ 4
  · have q1 := count_at (most := 4) e1 h4 (by decide)
    have e2 : s.data.toList = (a ++ numB m.k.toNat) ++ (sgB m.i ++ (sgB m.t ++ (sgB m.v ++ c))) := by rw [e1]; simp only [List.append_assoc]
    have q2 := num_at (n := (foldN m.i).toNat) e2 (fold_lt hok.i)
    have e3 : s.data.toList = (a ++ numB m.k.toNat ++ sgB m.i) ++ (sgB m.t ++ (sgB m.v ++ c)) := by rw [e1]; simp only [List.append_assoc]
    have q3 := num_at (n := (foldN m.t).toNat) e3 (fold_lt hok.t)
    have e4 : s.data.toList = (a ++ numB m.k.toNat ++ sgB m.i ++ sgB m.t) ++ (sgB m.v ++ c) := by rw [e1]; simp only [List.append_assoc]
    have q4 := num_at (n := (foldN m.v).toNat) e4 (fold_lt hok.v)
    rw [rdU_eq q1 q2 q3 q4, sg_back hok.i, sg_back hok.t, sg_back hok.v]
    have ea : ((m.k.toNat : Nat) : Int) = m.k := by omega
    rw [ea]
    rw [show (⟨m.k, m.i, m.t, m.v⟩ : Mu) = m from rfl, h1]
    simp only [Bool.false_eq_true, if_false, rdFail_0]
    decide
  · have hsz : s.data.toList.length = s.size := by simp
    have ha : a.length ≤ s.size := by
      have := congrArg List.length h
      rw [List.length_append] at this
      omega
    have hp : pnum (s.data.toList.drop a.length) = (m.k.toNat, (numB m.k.toNat).length, 0) := by rw [at_drop e1]; exact pnum_num _ (by have := hok.k.2; omega)
    have q1 : rdCount s a.length 0 4 = (0, a.length, 5) := (rd_ok hp).trans (if_pos (Or.inr (by omega)))
    obtain ⟨⟨t2, a2, e2⟩, q2⟩ : ∃ q, rdNum s a.length 5 = q := ⟨_, rfl⟩
    obtain ⟨⟨t3, a3, e3⟩, q3⟩ : ∃ q, rdNum s a2 e2 = q := ⟨_, rfl⟩
    obtain ⟨⟨t4, a4, e4⟩, q4⟩ : ∃ q, rdNum s a3 e3 = q := ⟨_, rfl⟩
    have g2 := rdNum_to ha q2
    have g3 := rdNum_to g2.1 q3
    have g4 := rdNum_to g3.1 q4
    have n4 : e4 ≠ 0 := fun e => by have := g2.2.2 (g3.2.2 (g4.2.2 e)); omega
    rw [rdU_eq q1 q2 q3 q4]
    dsimp only
    split
    · exact n4
    · rw [rdFail_e n4]; exact n4
theorem rdUs_enc {s : ByteArray} : ∀ (L : List Mu) (a c : List UInt8) (L0 : List Mu), s.data.toList = a ++ (L.flatMap muB ++ c) → (∀ m ∈ L, m.ok) → (∀ m ∈ L, mayU m = true) → rdUs s L.length a.length 0 L0 = (L0 ++ L, (a ++ L.flatMap muB).length, 0)
  | [], a, c, L0, _, _, _ => by simp [rdUs]
  | m :: L, a, c, L0, h, hok, hmay => by
    have e1 : s.data.toList = a ++ (muB m ++ (L.flatMap muB ++ c)) := by rw [h]; simp only [List.flatMap_cons, List.append_assoc]
    have q := rdU_enc e1 (hok m (by simp)) (hmay m (by simp))
    have e2 : s.data.toList = (a ++ muB m) ++ (L.flatMap muB ++ c) := by rw [e1]; simp only [List.append_assoc]
    have ih := rdUs_enc L (a ++ muB m) c (L0 ++ [m]) e2 (fun x hx => hok x (by simp [hx])) (fun x hx => hmay x (by simp [hx]))
    show (if (rdU s a.length 0).2.2 = 0 then rdUs s L.length (rdU s a.length 0).2.1 0 (L0 ++ [(rdU s a.length 0).1]) else ([], (rdU s a.length 0).2)) = _
    rw [q]
    simp only [if_true]
    rw [ih]
    simp only [List.flatMap_cons, List.append_assoc, List.cons_append, List.nil_append]
/-- Where one of the requests may not be, none is told, and there is an error. -/
theorem rdUs_bad {s : ByteArray} : ∀ (L : List Mu) (a c : List UInt8) (L0 : List Mu), s.data.toList = a ++ (L.flatMap muB ++ c) → (∀ m ∈ L, m.ok ∧ 0 ≤ m.k) → (∃ m ∈ L, mayU m = false) → (rdUs s L.length a.length 0 L0).1 = [] ∧ (rdUs s L.length a.length 0 L0).2.2 ≠ 0
  | [], _, _, _, _, _, ⟨m, hm, _⟩ => by cases hm
  | m :: L, a, c, L0, h, hok, hbad => by
    have e1 : s.data.toList = a ++ (muB m ++ (L.flatMap muB ++ c)) := by rw [h]; simp only [List.flatMap_cons, List.append_assoc]
    have hm := hok m (by simp)
    have hu : rdUs s (m :: L).length a.length 0 L0 = if (rdU s a.length 0).2.2 = 0 then rdUs s L.length (rdU s a.length 0).2.1 0 (L0 ++ [(rdU s a.length 0).1]) else ([], (rdU s a.length 0).2) := rfl
    rw [hu]
    cases hmay : mayU m
    · have := rdU_bad e1 hm.1 hm.2 hmay
      rw [if_neg this]
      exact ⟨rfl, this⟩
    · have q := rdU_enc e1 hm.1 hmay
      have e2 : s.data.toList = (a ++ muB m) ++ (L.flatMap muB ++ c) := by rw [e1]; simp only [List.append_assoc]
      rw [q]
      simp only [if_true]
      refine rdUs_bad L (a ++ muB m) c (L0 ++ [m]) e2 (fun x hx => hok x (by simp [hx])) ?_
      obtain ⟨x, hx, hb⟩ := hbad
      rcases List.mem_cons.1 hx with rfl | hx
      · rw [hmay] at hb; cases hb
      · exact ⟨x, hx, hb⟩
theorem rdUL_eq {s : ByteArray} {L : List Mu} (h : s.data.toList = musB L) (hl : L.length ≤ 65536) : rdUL s 0 0 = rdUs s L.length (numB L.length).length 0 [] := by
  have e1 : s.data.toList = [] ++ (numB L.length ++ (L.flatMap muB)) := by rw [h]; unfold musB; simp
  have q := count_at (most := 65536) e1 hl (by decide)
  have q' : rdCount s 0 0 65536 = (L.length, ([] ++ numB L.length).length, 0) := q
  unfold rdUL
  simp only [q']
  simp
theorem rdUL_enc {s : ByteArray} {L : List Mu} (h : s.data.toList = musB L) (hok : ∀ m ∈ L, m.ok) (hmay : ∀ m ∈ L, mayU m = true) (hl : L.length ≤ 65536) : rdUL s 0 0 = (L, (musB L).length, 0) := by
  rw [rdUL_eq h hl, rdUs_enc L (numB L.length) [] [] (by rw [h]; unfold musB; simp) hok hmay]
  unfold musB
  simp
theorem rdUL_bad {s : ByteArray} {L : List Mu} (h : s.data.toList = musB L) (hok : ∀ m ∈ L, m.ok ∧ 0 ≤ m.k) (hbad : ∃ m ∈ L, mayU m = false) (hl : L.length ≤ 65536) : (rdUL s 0 0).1 = [] ∧ (rdUL s 0 0).2.2 ≠ 0 := by
  rw [rdUL_eq h hl]
  exact rdUs_bad L (numB L.length) [] [] (by rw [h]; unfold musB; simp) hok hbad
theorem rdU_only {s : ByteArray} {a a' : Nat} {e : Int} {m : Mu} (ha : a ≤ s.size) (h : rdU s a e = (m, a', 0)) : e = 0 ∧ a' ≤ s.size ∧ s.data.toList.drop a = muB m ++ s.data.toList.drop a' ∧ m.ok := by
  obtain ⟨⟨n1, a1, e1⟩, q1⟩ : ∃ q, rdCount s a e (4 : Nat) = q := ⟨_, rfl⟩
  obtain ⟨⟨t2, a2, e2⟩, q2⟩ : ∃ q, rdNum s a1 e1 = q := ⟨_, rfl⟩
  obtain ⟨⟨t3, a3, e3⟩, q3⟩ : ∃ q, rdNum s a2 e2 = q := ⟨_, rfl⟩
  obtain ⟨⟨t4, a4, e4⟩, q4⟩ : ∃ q, rdNum s a3 e3 = q := ⟨_, rfl⟩
  have g1 := rdCount_to ha q1
  have g2 := rdNum_to g1.1 q2
  have g3 := rdNum_to g2.1 q3
  have g4 := rdNum_to g3.1 q4
  rw [rdU_eq q1 q2 q3 q4] at h
  simp only [Prod.mk.injEq] at h
  obtain ⟨rfl, rfl, hz⟩ := h
  have z4 : e4 = 0 := by
    split at hz
    · exact hz
    · by_cases h0 : e4 = 0
      · exact h0
      · rw [rdFail_e h0] at hz; exact hz
  subst z4
  have z3 := g4.2.2 rfl
  subst z3
  have z2 := g3.2.2 rfl
  subst z2
  have z1 := g2.2.2 rfl
  subst z1
  refine ⟨g1.2.2.1 rfl, g4.1, ?_, ⟨?_, u_unf g2.2.1, u_unf g3.2.1, u_unf g4.2.1⟩⟩
  · rw [rdCount_only ha q1, rdNum_only g1.1 q2, rdNum_only g2.1 q3, rdNum_only g3.1 q4]
    unfold muB
    dsimp only
    rw [sg_num, sg_num, sg_num, Int.toNat_natCast]
    simp only [List.append_assoc]
  · have := g1.2.1; unfold I64; dsimp only; omega
theorem rdUs_only {s : ByteArray} : ∀ (n a : Nat) (e : Int) (L0 R : List Mu) (a' : Nat), a ≤ s.size → rdUs s n a e L0 = (R, a', 0) → ∃ L, R = L0 ++ L ∧ L.length = n ∧ a' ≤ s.size ∧ s.data.toList.drop a = L.flatMap muB ++ s.data.toList.drop a' ∧ ∀ m ∈ L, m.ok
  | 0, a, e, L0, R, a', ha, h => by
    simp only [rdUs, Prod.mk.injEq] at h
    obtain ⟨rfl, rfl, _⟩ := h
    exact ⟨[], by simp, rfl, ha, by simp, fun m hm => by cases hm⟩
  | n + 1, a, e, L0, R, a', ha, h => by
    have h' : (if (rdU s a e).2.2 = 0 then rdUs s n (rdU s a e).2.1 0 (L0 ++ [(rdU s a e).1]) else ([], (rdU s a e).2)) = (R, a', 0) := h
    obtain ⟨⟨m, a1, e1⟩, q⟩ : ∃ q, rdU s a e = q := ⟨_, rfl⟩
    rw [q] at h'
    dsimp only at h'
    split at h'
    · rename_i hz
      subst hz
      obtain ⟨_, g1, g2, g3⟩ := rdU_only ha q
      obtain ⟨L, rfl, hl, k1, k2, k3⟩ := rdUs_only n a1 0 _ R a' g1 h'
      refine ⟨m :: L, by simp, by simp [hl], k1, ?_, fun x hx => ?_⟩
      · rw [g2, k2, List.flatMap_cons, List.append_assoc]
      · rcases List.mem_cons.1 hx with rfl | hx
        · exact g3
        · exact k3 x hx
    · rename_i hz
      simp only [Prod.mk.injEq] at h'
      exact absurd h'.2.2 hz
/-- Bytes that are read as requests are just these requests'. -/
theorem rdUL_only {s : ByteArray} {R : List Mu} {a' : Nat} (h : rdUL s 0 0 = (R, a', 0)) : a' ≤ s.size ∧ s.data.toList.take a' = musB R ∧ R.length ≤ 65536 ∧ ∀ m ∈ R, m.ok := by
  obtain ⟨⟨n, a1, e1⟩, q⟩ : ∃ q, rdCount s 0 0 (65536 : Nat) = q := ⟨_, rfl⟩
  have g := rdCount_to (Nat.zero_le _) q
  have q' : rdCount s 0 0 65536 = (n, a1, e1) := q
  unfold rdUL at h
  simp only [q'] at h
  obtain ⟨L, hRL, hl, k1, k2, k3⟩ := rdUs_only n a1 e1 [] R a' g.1 h
  rw [List.nil_append] at hRL
  subst hRL
  have hz : e1 = 0 := by
    by_cases hn : 0 < n
    · exact g.2.2.2 hn
    · have : n = 0 := by omega
      subst this
      simp only [rdUs, Prod.mk.injEq] at h
      exact h.2.2
  subst hz
  have g2 := rdCount_only (Nat.zero_le _) q
  refine ⟨k1, ?_, by rw [hl]; exact g.2.1, k3⟩
  rw [k2, List.drop_zero, ← List.append_assoc] at g2
  have hb : numB n ++ R.flatMap muB = musB R := by unfold musB; rw [hl]
  rw [hb] at g2
  have hlen : (musB R).length = a' := by
    have e := congrArg List.length g2
    rw [List.length_append, List.length_drop] at e
    have hsz : s.data.toList.length = s.size := by simp
    omega
  rw [g2, ← hlen, List.take_left]
/-- Where there is an error none is told. -/
theorem rdUs_none {s : ByteArray} : ∀ (n a : Nat) (e : Int) (L0 : List Mu), (0 < n ∨ e = 0 ∨ L0 = []) → (rdUs s n a e L0).2.2 ≠ 0 → (rdUs s n a e L0).1 = []
  | 0, a, e, L0, h0, h => by
    rcases h0 with h0 | h0 | h0
    · omega
    · exact absurd h0 h
    · exact h0
  | n + 1, a, e, L0, _, h => by
    have hu : rdUs s (n + 1) a e L0 = if (rdU s a e).2.2 = 0 then rdUs s n (rdU s a e).2.1 0 (L0 ++ [(rdU s a e).1]) else ([], (rdU s a e).2) := rfl
    rw [hu] at h ⊢
    split
    · rename_i hz
      rw [if_pos hz] at h
      exact rdUs_none n _ 0 _ (Or.inr (Or.inl rfl)) h
    · rfl
theorem rdUL_none {s : ByteArray} (h : (rdUL s 0 0).2.2 ≠ 0) : (rdUL s 0 0).1 = [] := by
  unfold rdUL at h ⊢
  exact rdUs_none _ _ _ _ (Or.inr (Or.inr rfl)) h
end Go.Proofs.Ythnhmhjcpdomcaa
end
