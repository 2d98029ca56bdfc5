/- The law's ref: requests as the document has them; the document's Before. -/
import Derived.Test.YthnhmhjcpdomcaaMuThat
import Derived.Test.YthnhmhjcpdomcaaGrRef
import Derived.Deep.RegionHeldLaw
namespace Go.Proofs.Ythnhmhjcpdomcaa
open Go.RowKit Go.Sort
/-- A row of the document's requests of one's own. -/
def RO (w : World) (base : Nat) (v : Value) (L : List Mu) : Prop := w.ownsRow base 45 4 v L.length (L.flatMap muCells)
theorem infoRMu : (Try.prog.info? 45).map (fun i => (i.zero, i.size, i.bytes)) = some (some (.agg #[.int .i64 0, .int .i64 0, .int .i64 0, .int .i64 0]), 4, 32) := by kernel_rfl
theorem RO.new {w w' : World} {base : Nat} {v : Value} {R : List Mu} (h : RO w base v R) (hb : Below w.heap.size w w') : RO w' base v R := own_new' h hb
theorem u_four {W : World} {b : Nat} {t : TypeId} {f : Nat × Nat} {y : Mu} (h : W.heap[b]? = some (.cells #[.int .i64 y.k, .int .i64 y.i, .int .i64 y.t, .int .i64 y.v] t f)) : ∀ j u, (muCells y)[j]? = some u → W.cell? ((⟨b, 0, none⟩ : Addr).add j) = some u := by
  intro j u hu
  rw [Addr.add_lit, Nat.zero_add]
  simp only [World.cell?, h]
  simpa [muCells] using hu
theorem mu_snoc (L : List Mu) (y : Mu) : (L ++ [y]).flatMap muCells = L.flatMap muCells ++ muCells y := by simp
theorem one_drewU (w : World) (o : Obj) : Below w.heap.size w (w.alloc o).drew := (one_newU w o).drew
theorem UC.fr {w w' : World} {S : Nat → Prop} (f : Fr w w' S) {g o : Nat} {x : Mu} (h : UC w g o x) (hn : ¬ S g) : UC w' g o x := ⟨fr_cell f hn h.1, fr_cell f hn h.2.1, fr_cell f hn h.2.2.1, fr_cell f hn h.2.2.2⟩
set_option maxRecDepth 100000 in
set_option maxHeartbeats 1000000 in
theorem refU_any {w : World} {P : Nat → Prop} {ao : Option Addr} (L : List Mu) (cap : Nat) (h : UsAt w P ao L) (hl : L.length ≤ 1073741824) :
    Calls Try.prog 18 #[.slice ao L.length cap] w fun r w' => ∃ v, r = .returned v ∧ RO w' w.heap.size v L ∧ Below w.heap.size w w' := by
  obtain ⟨i0, hi, hz0, hz1, hz2⟩ := info_parts infoRMu
  have HG : Hid (UsAt w P ao L) := h
  clear h
  go_enter Try.func18, Try.ntmps18
  go_wp2
  go_loopw [3, 4] (fun u i wr => ∃ (j : Nat) (o : Option Addr) (m c : Nat), j ≤ L.length ∧ u = .slice o m c ∧ i = .int .i64 j ∧ RO wr w.heap.size (.slice o m c) (L.take j) ∧ Below w.heap.size w wr) (fun _ i _ => L.length - (intOf i).toNat)
  case atStart =>
    exact ⟨0, _, _, _, Nat.zero_le _, rfl, rfl, World.ownsRow_made w #[] 0 (Nat.le_refl _) (by decide) (by simp), (Below.refl _ w).alloc (Nat.le_refl _) _⟩
  case round =>
    obtain ⟨j, o, m, c, hj, rfl, rfl, hR, hb⟩ := hrel
    by_cases hlt : j < L.length
    · obtain ⟨b, off, rfl, hP, hc⟩ := HG.out (by omega)
      have x0 := (hc j hlt).new hb
      have HS : Hid (L.take (j + 1) = L.take j ++ [L[j]]) := List.take_succ_eq_append_getElem hlt
      have HLg : Hid ((L.take j).length = j) := by show _ = _; rw [List.length_take]; omega
      generalize L[j] = y at x0 HS
      have hbl := lt_cell x0.1
      have HBl : Hid (b < w.heap.size) := lt_cell (hc j hlt).1
      have HR : Hid _ := hR
      have HB : Hid _ := hb
      have HX : Hid _ := x0
      have x9 := fun o => UC.new x0 (one_newU wr o)
      clear hc hR hb
      unfold UC at x0 x9
      go_upto_region 5 with (fail)
      go_region_held_law (fun w' => w'.cell? ⟨b, off + j * 4, none⟩ = some (.int .i64 y.k) ∧ w'.cell? ⟨b, off + j * 4 + 1, none⟩ = some (.int .i64 y.i) ∧ w'.cell? ⟨b, off + j * 4 + 2, none⟩ = some (.int .i64 y.t) ∧ w'.cell? ⟨b, off + j * 4 + 3, none⟩ = some (.int .i64 y.v)) (first | exact x2 | exact x9 _ | exact x0)
        ((refine step_append_own rfl (.tmp 12) (.tmp 34) 42 rfl w.heap.size 45 i0 (.agg #[.int .i64 0, .int .i64 0, .int .i64 0, .int .i64 0]) 4 32 Try.underlying42 hi hz0 hz1 hz2 rfl (by decide) (.slice o m c) _ _ (by simp [Act.eval]) (own_new' HR.out (one_drewU wr _)) ⟨wr.heap.size, 0, none⟩ 1 1 (muCells y) (by simp [Act.eval]) rfl (u_four (heap_alloc_new wr _)) (muOne y) (by rw [HLg.out]; unfold maxLen; omega) (by rw [HLg.out]; omega) (by have := HB.out.size; simp; omega) ?_; intro v' w4 hown hgrow hat; have f4 : Fr (wr.alloc (.cells #[.int .i64 y.k, .int .i64 y.i, .int .i64 y.t, .int .i64 y.v] 45)).drew w4 (fun k => Value.ownBlock (.slice o m c) = some k) := ⟨hgrow.os, hgrow.tape, hgrow.output, hgrow.size, fun k hk hn => hgrow.block k hk (fun e => hn e.symm)⟩; have HH : Hid _ := f4; have HO : Hid _ := hown; have HA : Hid _ := hat; have x2 := UC.fr f4 (UC.new HX.out (one_drewU wr _)) (fun e => by have := (World.ownsRow.lt HR.out b e).1; have := HBl.out; omega); unfold UC at x2; clear hown hgrow hat f4))
      all_goals
        have hM4 : RO w4 w.heap.size v' (L.take (j + 1)) := by
          unfold RO
          rw [HS.out, mu_snoc, List.length_append]
          exact HO.out
        have hB4 : Below w.heap.size w w4 := (HB.out.trans ((one_drewU wr _).mono HB.out.size)).trans (HH.out.below (HB.out.trans ((one_drewU wr _).mono HB.out.size)).size (fun k hk => (World.ownsRow.lt HR.out k hk).1))
        obtain ⟨o', m', c', rfl⟩ := own_anyU hM4
        have HM4 : Hid _ := hM4
        have HB4 : Hid _ := hB4
        clear hM4 hB4 x0 x2 x9
        go_wp2
        go_roundw
        case rel => exact ⟨j + 1, _, _, _, by omega, rfl, by go_num, HM4.out, HB4.out⟩
        case measure => simp [intOf]; omega
    · obtain rfl : j = L.length := by omega
      rw [List.take_length] at hR
      have HR : Hid _ := hR
      have HB : Hid _ := hb
      clear hR hb
      go_wp2
      go_ret
      exact ⟨_, rfl, HR.out, HB.out⟩
end Go.Proofs.Ythnhmhjcpdomcaa
