import Derived.Test.YtjemnkijoiehmaaGreatDoorStSaM
import Derived.Test.YtjemnkijoiehmaaGreatDoorWlF1M
import Derived.BigQuiet
import Derived.Laws.Tables
/- store: find: a number's text, wherever it is. -/
namespace Go.Proofs.YtjemnkijoiehmaaGreatDoor
open Go.RowKit Go.Maps
variable {Xm : Nat → Prop}
attribute [local go_sem] Oper.semAt_some
theorem size_held : (Tryz.prog.info? 59).map (·.size) = some 3 := by kernel_rfl
theorem st_setRow (w : World) (g : Nat) (cs : Array Value) : Fr w (w.setRow g cs) (fun k => k = g) := ⟨rfl, rfl, rfl, by simp, fun k _ hn => setRow_other w g k cs hn⟩
/-- What find answers. -/
def fndV (o : Option Bs) : Value := .tuple #[.string (str (o.getD [])), .int .i64 (if o.isSome then 0 else 2)]
theorem st_box3 {w : World} {b : Nat} {x y z : Value} (h : w.heap[b]? = some (.cells #[x, y, z] 59 (0, 0))) : w.cell? ⟨b, 0, none⟩ = some x ∧ w.cell? ⟨b, 1, none⟩ = some y ∧ w.cell? ⟨b, 2, none⟩ = some z := by
  simp [World.cell?, h]
section
variable {w : World} {B q p c : Nat} {K : St} {A : Dk} {mb : Option Nat} {mv : Value} {n : Int}
set_option linter.unusedSimpArgs false in
set_option maxRecDepth 100000 in
set_option maxHeartbeats 2000000 in
theorem sfind_here {hd : Hd} {ok : Bool} (c2 : w.cell? ⟨q, 2, none⟩ = some (.map mb)) (hlk : (Instr.lookup 47 (.map mb) (.int .i64 n) true).run Tryz.prog w = .ok (.tuple #[lvH hd, .bool ok]) w) (ha : hd.a = false) : Calls Tryz.prog 18 #[.pointer (some ⟨q, 0, none⟩), .int .i64 n] w fun r w' => r = .returned (.tuple #[.string (str (if ok then hd.t else [])), .int .i64 (if ok then 0 else 2)]) ∧ Below w.heap.size w w' := by
  obtain ⟨t, a, u⟩ := hd
  obtain rfl : a = false := ha
  simp only [lvH] at hlk
  have HB1 : Hid (Below w.heap.size w (w.alloc (.cells #[.string (str []), .bool false, .int .u32 0] 59))) := gone_new _ _
  cases ok with
  | false =>
    go_enter Tryz.func18, Tryz.ntmps18
    go_upto_region 2 with (refine wpList_store_row rfl 59 _ _ rfl _ #[.string (str t), .bool false, .int .u32 u] rfl rfl 59 #[.string (str []), .bool false, .int .u32 0] (heap_alloc_new _ _) size_held rfl (by simp [Value.oneCell']) ?_)
    generalize hW : World.setRow _ _ _ = W
    have HB2 : Hid (Below w.heap.size w W) := by
      show Below _ _ _
      rw [← hW]
      exact ((Fr.alloc w _ (fun _ => False)).trans (st_setRow _ _ _) (fun i hi e => absurd e (by omega))).below (Nat.le_refl _) (fun _ h => h.elim)
    clear hW
    go_wp2
    go_ret2
    exact ⟨rfl, HB2.out⟩
  | true =>
    go_enter Tryz.func18, Tryz.ntmps18
    go_upto_region 2 with (refine wpList_store_row rfl 59 _ _ rfl _ #[.string (str t), .bool false, .int .u32 u] rfl rfl 59 #[.string (str []), .bool false, .int .u32 0] (heap_alloc_new _ _) size_held rfl (by simp [Value.oneCell']) ?_)
    generalize hW : World.setRow _ _ _ = W
    have hbx : W.heap[w.heap.size]? = some (.cells #[.string (str t), .bool false, .int .u32 u] 59 (0, 0)) := by rw [← hW]; exact setRow_heap _ _ _ _ _ _ (heap_alloc_new _ _)
    have HB2 : Hid (Below w.heap.size w W) := by
      show Below _ _ _
      rw [← hW]
      exact ((Fr.alloc w _ (fun _ => False)).trans (st_setRow _ _ _) (fun i hi e => absurd e (by omega))).below (Nat.le_refl _) (fun _ h => h.elim)
    obtain ⟨x0, x1, x2⟩ := st_box3 hbx
    clear hW hbx
    go_wp2
    go_ret2
    exact ⟨rfl, HB2.out⟩
set_option linter.unusedSimpArgs false in
set_option maxRecDepth 100000 in
set_option maxHeartbeats 2000000 in
theorem sfind_away {s : Bs} (hsl : s.length ≤ 140737488351232) (h0 : 0 ≤ n) (h1 : n < 16) (hbl : StBl w q p K.bud K.sp mb mv) (hd : DkAt Xm w B p A) (hi : DkI A c) (hg : getF (fnm n) A.now = some (frameB s)) (hlk : (Instr.lookup 47 (.map mb) (.int .i64 n) true).run Tryz.prog w = .ok (.tuple #[.agg #[.string (str []), .bool true, .int .u32 (crcN s)], .bool true]) w) : Calls Tryz.prog 18 #[.pointer (some ⟨q, 0, none⟩), .int .i64 n] w fun r w' => r = .returned (.tuple #[.string (str s), .int .i64 0]) ∧ Below w.heap.size w w' := by
  have c2 := hbl.cells.2.2.1
  have HBl : Hid (StBl w q p K.bud K.sp mb mv) := hbl
  have HD : Hid (DkAt Xm w B p A) := hd
  have hfl := frameB_le s (by omega)
  have HR : Hid (∀ W, DkAt Xm W B p A → Calls Tryz.prog 28 #[.pointer (some ⟨p, 0, none⟩), .string (str (fnm n))] W fun r w' => r = .returned (.tuple #[.string (str (frameB s)), .int .i64 0]) ∧ Below W.heap.size W w') := fun W hW => by
    obtain ⟨mn, ms, lv, hA⟩ := hW
    have := read_ok (nm := fnm n) (er := 0) hA hi.dead (fnm_ok h0 h1) (by rw [hg]; rfl)
    rw [show ofF (fnm n) A.now = frameB s by unfold ofF; rw [hg]; rfl] at this
    exact this
  have HU : Hid (∀ W, Calls Tryz.prog 29 #[.string (str (frameB s)), .int .i64 0] W fun e w' => e = .returned (.tuple #[.string (str s), .int .i64 ((str (frameB s)).size : Nat), .int .i64 0]) ∧ Below W.heap.size W w') := fun W => by
    have hu := unf1_frame s [] (by omega)
    rw [List.append_nil] at hu
    have := unframe_ok (l := frameB s) (a := 0) (x := s) (n := (frameB s).length) W (Nat.zero_le _) (by unfold maxLen; omega) (by rw [List.drop_zero]; exact hu)
    rw [Nat.zero_add] at this
    rw [str_size]
    exact this
  have hsz : (str (frameB s)).size ≤ 140737488355328 := by rw [str_size]; omega
  have hN := fun W => sname h0 h1 W
  have hSu := fun W => ssum hsl W
  generalize str (frameB s) = fb at HR HU hsz
  clear hd hg hfl hbl hi
  go_enter Tryz.func18, Tryz.ntmps18
  go_upto_region 2 with (refine wpList_store_row rfl 59 _ _ rfl _ #[.string (str []), .bool true, .int .u32 (crcN s)] rfl rfl 59 #[.string (str []), .bool false, .int .u32 0] (heap_alloc_new _ _) size_held rfl (by simp [Value.oneCell']) ?_)
  generalize hW : World.setRow _ _ _ = W
  have hbx : W.heap[w.heap.size]? = some (.cells #[.string (str []), .bool true, .int .u32 (crcN s)] 59 (0, 0)) := by rw [← hW]; exact setRow_heap _ _ _ _ _ _ (heap_alloc_new _ _)
  have HB2 : Hid (Below w.heap.size w W) := by
    show Below _ _ _
    rw [← hW]
    exact ((Fr.alloc w _ (fun _ => False)).trans (st_setRow _ _ _) (fun i hi e => absurd e (by omega))).below (Nat.le_refl _) (fun _ h => h.elim)
  obtain ⟨hb, hhb⟩ : ∃ hb, w.heap.size = hb := ⟨_, rfl⟩
  rw [hhb] at hbx ⊢
  have HX : Hid (W.heap[hb]? = some (.cells #[.string (str []), .bool true, .int .u32 (crcN s)] 59 (0, 0))) := hbx
  obtain ⟨x0, x1, x2⟩ := st_box3 hbx
  clear hW hbx hlk c2
  go_upto_region 6 with (fail)
  obtain ⟨Wd, hWd⟩ : ∃ Wd, W.drew = Wd := ⟨_, rfl⟩
  have bd : Below W.heap.size W Wd := by rw [← hWd]; exact Below.drew (Below.refl _ _)
  have HB3 : Hid (Below w.heap.size w Wd) := HB2.out.trans (bd.mono HB2.out.size)
  have HX3 : Hid (Wd.heap[hb]? = some (.cells #[.string (str []), .bool true, .int .u32 (crcN s)] 59 (0, 0))) := (bd.block hb (lt_blk HX.out)).trans HX.out
  have hR := HR.out Wd (HD.out.new HB3.out)
  have hS : Wd.cell? ⟨q, 0, none⟩ = some (.pointer (some ⟨p, 0, none⟩)) := (HBl.out.new HB3.out).cells.1
  refine wp_calmD ?_
  refine wp_region_L [] (fun W : World => W.cell? ⟨q, 0, none⟩ = some (.pointer (some ⟨p, 0, none⟩))) (by kernel_rfl) ?_
  rw [hWd]
  clear hWd bd x0 x1 x2
  refine wpAnyL_take (i := 0) 29 (v := .pointer (some ⟨q, 0, none⟩)) rfl rfl (by kernel_rfl) (by kernel_rfl) (by kernel_rfl) (by kernel_rfl) (by kernel_rfl) (by kernel_rfl) (fun _ _ _ h => h) hS (by rfl) (by intro w' hSw; have y0 := hSw; go_simp <;> with_reducible rfl) ?_
  simp only [Act.put, List.setIfInBounds_toArray, List.set_cons_zero, List.set_cons_succ]
  refine wpAnyL_take (i := 1) 30 (v := .pointer (some ⟨q, 0, none⟩)) rfl rfl (by kernel_rfl) (by kernel_rfl) (by kernel_rfl) (by kernel_rfl) (by kernel_rfl) (by kernel_rfl) (fun _ _ _ h => h) hS (by rfl) (by intro w' hSw; have y0 := hSw; go_simp <;> with_reducible rfl) ?_
  simp only [Act.put, List.setIfInBounds_toArray, List.set_cons_zero, List.set_cons_succ]
  refine wpAnyL_take (i := 2) 31 (v := .pointer (some ⟨q, 0, none⟩)) rfl rfl (by kernel_rfl) (by kernel_rfl) (by kernel_rfl) (by kernel_rfl) (by kernel_rfl) (by kernel_rfl) (fun _ _ _ h => h) hS (by rfl) (by intro w' hSw; have y0 := hSw; go_simp <;> with_reducible rfl) ?_
  simp only [Act.put, List.setIfInBounds_toArray, List.set_cons_zero, List.set_cons_succ]
  refine wpAnyL_take (i := 3) 32 (v := .pointer (some ⟨p, 0, none⟩)) rfl rfl (by kernel_rfl) (by kernel_rfl) (by kernel_rfl) (by kernel_rfl) (by kernel_rfl) (by kernel_rfl) (fun _ _ _ h => h) hS (by rfl) (by intro w' hSw; have y0 := hSw; go_simp <;> with_reducible rfl) ?_
  simp only [Act.put, List.setIfInBounds_toArray, List.set_cons_zero, List.set_cons_succ]
  refine wpAnyL_take (i := 4) 33 (v := .int .i64 n) rfl rfl (by kernel_rfl) (by kernel_rfl) (by kernel_rfl) (by kernel_rfl) (by kernel_rfl) (by kernel_rfl) (fun _ _ _ h => h) hS (by rfl) (by intro w' hSw; have y0 := hSw; go_simp <;> with_reducible rfl) ?_
  simp only [Act.put, List.setIfInBounds_toArray, List.set_cons_zero, List.set_cons_succ]
  refine wpAnyL_one (i := 5) (by kernel_rfl) rfl (fun Ka hKa => ?_)
  go_simp
  refine Calls.mono (hN _) ?_
  rintro r w5 ⟨rfl, hw5⟩
  rw [hw5]
  refine hKa.out _ _ (fun _ => hS) ?_
  clear hKa Ka hw5
  try simp only [Act.put, List.setIfInBounds_toArray, List.set_cons_zero, List.set_cons_succ]
  refine wpAnyL_one (i := 6) (by kernel_rfl) rfl (fun Ka hKa => ?_)
  go_simp
  refine Calls.mono hR ?_
  rintro r w6 ⟨rfl, hb6⟩
  have HB6 : Hid (Below w.heap.size w w6) := HB3.out.trans (hb6.mono HB3.out.size)
  have HX6 : Hid (w6.heap[hb]? = some (.cells #[.string (str []), .bool true, .int .u32 (crcN s)] 59 (0, 0))) := (hb6.block hb (lt_blk HX3.out)).trans HX3.out
  have hS6 : w6.cell? ⟨q, 0, none⟩ = some (.pointer (some ⟨p, 0, none⟩)) := (HBl.out.new HB6.out).cells.1
  refine hKa.out _ _ (fun _ => hS6) ?_
  clear hKa Ka hb6 hS hR
  try simp only [Act.put, List.setIfInBounds_toArray, List.set_cons_zero, List.set_cons_succ]
  refine wpAnyL_take (i := 7) 28 (v := .tuple #[.string fb, .int .i64 0]) rfl rfl (by kernel_rfl) (by kernel_rfl) (by kernel_rfl) (by kernel_rfl) (by kernel_rfl) (by kernel_rfl) (fun _ _ _ h => h) hS6 (by rfl) (by intro w' hSw; have y0 := hSw; go_simp <;> with_reducible rfl) ?_
  simp only [Act.put, List.setIfInBounds_toArray, List.set_cons_zero, List.set_cons_succ]
  refine wpAnyL_take (i := 8) 36 (v := .string fb) rfl rfl (by kernel_rfl) (by kernel_rfl) (by kernel_rfl) (by kernel_rfl) (by kernel_rfl) (by kernel_rfl) (fun _ _ _ h => h) hS6 (by rfl) (by intro w' hSw; have y0 := hSw; go_simp <;> with_reducible rfl) ?_
  simp only [Act.put, List.setIfInBounds_toArray, List.set_cons_zero, List.set_cons_succ]
  refine wpAnyL_take (i := 9) 37 (v := .int .i64 0) rfl rfl (by kernel_rfl) (by kernel_rfl) (by kernel_rfl) (by kernel_rfl) (by kernel_rfl) (by kernel_rfl) (fun _ _ _ h => h) hS6 (by rfl) (by intro w' hSw; have y0 := hSw; go_simp <;> with_reducible rfl) ?_
  simp only [Act.put, List.setIfInBounds_toArray, List.set_cons_zero, List.set_cons_succ]
  refine wpAnyL_take (i := 10) 8 (v := .string fb) rfl rfl (by kernel_rfl) (by kernel_rfl) (by kernel_rfl) (by kernel_rfl) (by kernel_rfl) (by kernel_rfl) (fun _ _ _ h => h) hS6 (by rfl) (by intro w' hSw; have y0 := hSw; go_simp <;> with_reducible rfl) ?_
  simp only [Act.put, List.setIfInBounds_toArray, List.set_cons_zero, List.set_cons_succ]
  refine wpAnyL_take (i := 11) 9 (v := .int .i64 0) rfl rfl (by kernel_rfl) (by kernel_rfl) (by kernel_rfl) (by kernel_rfl) (by kernel_rfl) (by kernel_rfl) (fun _ _ _ h => h) hS6 (by rfl) (by intro w' hSw; have y0 := hSw; go_simp <;> with_reducible rfl) ?_
  simp only [Act.put, List.setIfInBounds_toArray, List.set_cons_zero, List.set_cons_succ]
  refine wpAnyL_done (by kernel_rfl) ?_ _
  have hU := HU.out w6
  clear hS6 hN
  go_upto_region 10 with (go_at_call 29; refine Calls.mono hU ?_; rintro r w7 ⟨rfl, hb7⟩; have HB7 : Hid (Below w6.heap.size w6 w7) := hb7; clear hb7)
  have HX7 := (HB7.out.block hb (lt_blk HX6.out)).trans HX6.out
  obtain ⟨x0, x1, x2⟩ := st_box3 HX7
  have HB8 : Hid (Below w.heap.size w w7) := HB6.out.trans (HB7.out.mono HB6.out.size)
  clear HX7 hU
  go_quiet ((go_at_call 30; exact Calls.quiet_of_same (hSu _)))
  go_wp2
  go_ret2
  exact ⟨rfl, HB8.out.trans (show Below w.heap.size w7 (w7.drewN nq) from ⟨rfl, rfl, rfl, Nat.le_refl _, fun _ _ => rfl⟩)⟩
end
end Go.Proofs.YtjemnkijoiehmaaGreatDoor
