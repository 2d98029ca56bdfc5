import Derived.Test.YtjemnkijoiehmaaGreatDoorStFiM
import Derived.Test.YtjemnkijoiehmaaGreatDoorStUsM
import Derived.Shelf.SortM.Plain
import Derived.Shelf.SortM.SortNone
import Derived.Shelf.SlIterI.Nil
import Derived.Shelf.SlIterI.Sorted
import Derived.Shelf.SlGeneric
import Derived.Test.YtjemnkijoiehmaaGreatDoorProg
import Derived.RangeFuncIn
import Derived.RangeFuncRecord
import Derived.RangeFuncKeeps
import Derived.RangeFuncLeaves
import Derived.ControlIn
import Derived.Test.YtjemnkijoiehmaaGreatDoorNumM
import Derived.Below
section
/- store: New, Put, Get, Used, Spills. -/
namespace Go.Proofs.YtjemnkijoiehmaaGreatDoor
open Go.RowKit Go.Maps
variable {Xm : Nat → Prop}
attribute [local go_sem] Oper.semAt_some
section
variable {w : World} {B q p c : Nat} {K : St} {A : Dk} {mb : Option Nat} {mv : Value} {n : Int} {t : Bs}
theorem sfind (h : SA0 Xm w B q p K A c mb mv) (hn : I6 n) : Calls Tryz.prog 18 #[.pointer (some ⟨q, 0, none⟩), .int .i64 n] w fun r w' => r = .returned (fndV (K.f n)) ∧ Below w.heap.size w w' := by
  have hlk := h.tx.lookOk mtH hn
  rw [heldO_some] at hlk
  cases hf : K.f n with
  | none =>
    rw [heldO_none hf, hf] at hlk
    exact sfind_here (hd := ⟨[], false, 0⟩) (ok := false) h.blk.cells.2.2.1 hlk rfl
  | some s =>
    by_cases hx : n ∈ K.near
    · rw [heldO_near hf hx, hf] at hlk
      exact sfind_here (hd := ⟨s, false, 0⟩) (ok := true) h.blk.cells.2.2.1 hlk rfl
    · rw [heldO_away hf hx, hf] at hlk
      have hr := h.ok.sup n (by rw [hf]; rfl)
      exact sfind_away (h.ok.siz n s hf) hr.1 hr.2 h.blk h.dk h.di (h.fl n s hf hx) hlk
set_option maxRecDepth 100000 in
theorem sput_ok (h : SA Xm w B q p K c) (hB : B ≤ w.heap.size) (hc : c ≤ 900000) (h0 : 0 ≤ n) (h1 : n < 16) (ht : t.length ≤ 140737488351232) (hsp : K.sp ≤ 1000000) : Calls Tryz.prog 12 #[.pointer (some ⟨q, 0, none⟩), .int .i64 n, .string (str t)] w fun r w' => r = .returned (.int .i64 0) ∧ SA Xm w' B q p (K.use n t) (c + 16) ∧ FrT Xm B w w' := by
  obtain ⟨A, mb, mv, h⟩ := h
  have hU := suse h hB hc h0 h1 ht hsp
  clear h hB hc ht hsp
  go_enter Tryz.func12, Tryz.ntmps12
  go_wp2_with (go_at_call 19; refine Calls.mono hU ?_; rintro r w2 ⟨rfl, e1, e2⟩; have E1 : Hid (SA Xm w2 B q p (K.use n t) (c + 16)) := e1; have E2 : Hid (FrT Xm B w w2) := e2; clear e1 e2)
  go_ret
  exact ⟨rfl, E1.out, E2.out⟩
set_option maxRecDepth 100000 in
theorem sput_bad (hn : n < 0 ∨ 16 ≤ n) : Calls Tryz.prog 12 #[.pointer (some ⟨q, 0, none⟩), .int .i64 n, .string (str t)] w fun r w' => r = .returned (.int .i64 1) ∧ w' = w := by
  by_cases h0 : n < 0
  · go_enter Tryz.func12, Tryz.ntmps12
    go_wp2
    go_ret
    exact ⟨rfl, rfl⟩
  · have h1 : 16 ≤ n := by omega
    have h2 : 0 ≤ n := by omega
    clear h0 hn
    go_enter Tryz.func12, Tryz.ntmps12
    go_wp2
    go_ret
    exact ⟨rfl, rfl⟩
set_option maxRecDepth 100000 in
theorem sget_some {s : Bs} (h : SA Xm w B q p K c) (hB : B ≤ w.heap.size) (hc : c ≤ 900000) (hf : K.f n = some s) (hsp : K.sp ≤ 1000000) : Calls Tryz.prog 7 #[.pointer (some ⟨q, 0, none⟩), .int .i64 n] w fun r w' => r = .returned (.tuple #[.string (str s), .int .i64 0]) ∧ SA Xm w' B q p (K.use n s) (c + 16) ∧ FrT Xm B w w' := by
  obtain ⟨A, mb, mv, h⟩ := h
  have hr := h.ok.sup n (by rw [hf]; rfl)
  have hF := sfind h (i6_few hr.1 hr.2)
  rw [hf] at hF
  have HU : Hid (∀ W, Below w.heap.size w W → Calls Tryz.prog 19 #[.pointer (some ⟨q, 0, none⟩), .int .i64 n, .string (str s)] W fun r w' => r = .returned (.int .i64 0) ∧ SA Xm w' B q p (K.use n s) (c + 16) ∧ FrT Xm B W w') := fun W hW => suse (h.new hW) (Nat.le_trans hB hW.size) hc hr.1 hr.2 (h.ok.siz n s hf) hsp
  simp only [fndV, Option.getD_some, Option.isSome_some, if_true] at hF
  clear h hB hc hf hsp hr
  go_enter Tryz.func7, Tryz.ntmps7
  go_wp2_with (first
    | (go_at_call 18; refine Calls.mono hF ?_; rintro r w1 ⟨rfl, e1⟩; have hU := HU.out w1 e1; have E0 : Hid (Below w.heap.size w w1) := e1; clear e1 hF)
    | (go_at_call 19; refine Calls.mono hU ?_; rintro r w2 ⟨rfl, e1, e2⟩; have E1 : Hid (SA Xm w2 B q p (K.use n s) (c + 16)) := e1; have E2 : Hid (FrT Xm B w1 w2) := e2; clear e1 e2))
  go_ret2
  exact ⟨rfl, E1.out, (FrT.new E0.out).trans E2.out⟩
set_option maxRecDepth 100000 in
theorem sget_none (h : SA Xm w B q p K c) (hi : I6 n) (hf : K.f n = none) : Calls Tryz.prog 7 #[.pointer (some ⟨q, 0, none⟩), .int .i64 n] w fun r w' => r = .returned (.tuple #[.string (str []), .int .i64 2]) ∧ Below w.heap.size w w' := by
  obtain ⟨A, mb, mv, h⟩ := h
  have hF := sfind h hi
  rw [hf] at hF
  simp only [fndV, Option.getD_none, Option.isSome_none, Bool.false_eq_true, if_false] at hF
  clear h hf
  go_enter Tryz.func7, Tryz.ntmps7
  go_wp2_with (go_at_call 18; refine Calls.mono hF ?_; rintro r w1 ⟨rfl, e1⟩; have E0 : Hid (Below w.heap.size w w1) := e1; clear e1 hF)
  go_ret2
  exact ⟨rfl, E0.out⟩
/-- A store with nothing. -/
def St.new (bud : Int) : St := ⟨noneO, [], 0, bud⟩
theorem St.new_ok {bud : Int} (h : I6 bud) : (St.new bud).ok := ⟨Sup.none, List.nodup_nil, fun x hx => (by cases hx), fun x t hx => (by cases hx), h⟩
set_option maxRecDepth 100000 in
theorem snew_ok {bud : Int} (hd : DkAt Xm w B p ⟨[], [], 0, false, .slice none 0 0⟩) (hB : B ≤ w.heap.size) (h0 : 0 ≤ bud) (h1 : bud ≤ 9223372036854775807) : Calls Tryz.prog 4 #[.pointer (some ⟨p, 0, none⟩), .int .i64 bud] w fun r w' => r = .returned (.tuple #[.pointer (some ⟨w.heap.size, 0, none⟩), .int .i64 0]) ∧ SA Xm w' B w.heap.size p (St.new bud) 0 ∧ Below w.heap.size w w' := by
  obtain ⟨W, hW⟩ : ∃ W, w.alloc (.cells #[.pointer (some ⟨p, 0, none⟩), .int .i64 bud, .map none, .slice none 0 0, .int .i64 0] 49) = W := ⟨_, rfl⟩
  have hb : Below w.heap.size w W := by rw [← hW]; exact gone_new _ _
  have hE : SA Xm W B w.heap.size p (St.new bud) 0 := by
    refine ⟨_, none, .slice none 0 0, (show StBl W w.heap.size p bud 0 none (.slice none 0 0) by rw [← hW]; exact heap_alloc_new _ _), rfl, NrO.nil _ _, (hd.new hb).less (fun k e => by rcases e with e | e; exact e; cases e), ⟨rfl, rfl, Nat.le_refl _, Nat.le_refl _, Nat.le_refl _, fun p hp => (by cases hp)⟩, St.new_ok ⟨by omega, h1⟩, fun x s hx => (by cases hx), hB, fun k e => (by cases e), fun e => ?_, fun k e => (by cases e), fun k e => (by cases e)⟩
    obtain ⟨mn, ms, lv, hA⟩ := hd
    have := hA.lx _ e
    omega
  have HE : Hid (SA Xm W B w.heap.size p (St.new bud) 0) := hE
  have HB : Hid (Below w.heap.size w W) := hb
  clear hb hE hd hB
  go_enter Tryz.func4, Tryz.ntmps4
  go_wp2
  go_ret2
  exact ⟨rfl, HE.out, HB.out⟩
set_option maxRecDepth 100000 in
theorem snew_bad {bud : Int} (h0 : bud < 0) : Calls Tryz.prog 4 #[.pointer (some ⟨p, 0, none⟩), .int .i64 bud] w fun r w' => r = .returned (.tuple #[.pointer none, .int .i64 1]) ∧ w' = w := by
  go_enter Tryz.func4, Tryz.ntmps4
  go_wp2
  go_ret2
  exact ⟨rfl, rfl⟩
theorem sspills (h : SA Xm w B q p K c) : Calls Tryz.prog 15 #[.pointer (some ⟨q, 0, none⟩)] w fun r w' => r = .returned (.int .i64 K.sp) ∧ w' = w := by
  obtain ⟨A, mb, mv, h⟩ := h
  obtain ⟨c0, c1, c2, c3, c4⟩ := h.blk.cells
  clear h
  go_enter Tryz.func15, Tryz.ntmps15
  go_wp2
  go_ret
  exact ⟨rfl, rfl⟩
theorem sused (h : SA Xm w B q p K c) : Calls Tryz.prog 13 #[.pointer (some ⟨q, 0, none⟩)] w fun r w' => r = .returned (.int .i64 (byt (heldO K.f K.near) K.near)) ∧ w' = w := by
  obtain ⟨A, mb, mv, h⟩ := h
  obtain ⟨c0, c1, c2, c3, c4⟩ := h.blk.cells
  have hb := sbytes c2 h.tx h.mem.toS h.ok.few (fun x hx => by have := h.ok.sup x (h.ok.sub x hx); exact i6_few this.1 this.2) h.ok.lenH
  clear h
  go_enter Tryz.func13, Tryz.ntmps13
  go_wp2_with (go_at_call 24; refine Calls.mono hb ?_; rintro r w1 ⟨rfl, rfl⟩)
  go_ret
  exact ⟨rfl, rfl⟩
end
end Go.Proofs.YtjemnkijoiehmaaGreatDoor
end

section
/- The library's functions at this program's types: which of the program's functions are the library's. -/
namespace Go.Proofs.YtjemnkijoiehmaaGreatDoor
open Go.Shelf Go.Proofs
def laySortInt_ren : Go.Shelf.Ren := ⟨fun | 5 => 63 | 8 => 67 | 7 => 78 | 19 => 88 | 20 => 89 | 10 => 98 | 11 => 99 | 12 => 100 | 13 => 101 | 14 => 102 | 15 => 103 | 16 => 104 | 17 => 105 | 18 => 106 | 30 => 118 | 31 => 108 | 32 => 109 | 33 => 119 | 34 => 120 | 35 => 121 | 40 => 125 | n => n, fun | 23 => 31 | 25 => 3 | 3 => 3 | 32 => 98 | 22 => 31 | 0 => 0 | 44 => 57 | 46 => 116 | 4 => 4 | 36 => 130 | 35 => 129 | 41 => 135 | 5 => 5 | 9 => 9 | 53 => 154 | 57 => 158 | 63 => 167 | 64 => 168 | n => n, fun | n => n⟩
theorem laySortInt : Go.Proofs.SlLaysM.n5 Tryz.prog laySortInt_ren := {
  mixed := by kernel_rfl,
  f5 := ⟨Tryz.f63.name, by decide, Tryz.func63.trans (congrArg some (by kernel_rfl))⟩,
  f7 := ⟨Tryz.f78.name, by decide, Tryz.func78.trans (congrArg some (by kernel_rfl))⟩,
  f8 := Tryz.func67.trans (congrArg some (by kernel_rfl)),
  f10 := ⟨Tryz.f98.name, by decide, Tryz.func98.trans (congrArg some (by kernel_rfl))⟩,
  f11 := ⟨Tryz.f99.name, by decide, Tryz.func99.trans (congrArg some (by kernel_rfl))⟩,
  f12 := ⟨Tryz.f100.name, by decide, Tryz.func100.trans (congrArg some (by kernel_rfl))⟩,
  f13 := ⟨Tryz.f101.name, by decide, Tryz.func101.trans (congrArg some (by kernel_rfl))⟩,
  f14 := ⟨Tryz.f102.name, by decide, Tryz.func102.trans (congrArg some (by kernel_rfl))⟩,
  f15 := ⟨Tryz.f103.name, by decide, Tryz.func103.trans (congrArg some (by kernel_rfl))⟩,
  f16 := ⟨Tryz.f104.name, by decide, Tryz.func104.trans (congrArg some (by kernel_rfl))⟩,
  f17 := ⟨Tryz.f105.name, by decide, Tryz.func105.trans (congrArg some (by kernel_rfl))⟩,
  f18 := ⟨Tryz.f106.name, by decide, Tryz.func106.trans (congrArg some (by kernel_rfl))⟩,
  f19 := Tryz.func88.trans (congrArg some (by kernel_rfl)),
  f20 := Tryz.func89.trans (congrArg some (by kernel_rfl)),
  f30 := ⟨Tryz.f118.name, by decide, Tryz.func118.trans (congrArg some (by kernel_rfl))⟩,
  f31 := Tryz.func108.trans (congrArg some (by kernel_rfl)),
  f32 := Tryz.func109.trans (congrArg some (by kernel_rfl)),
  f33 := ⟨Tryz.f119.name, by decide, Tryz.func119.trans (congrArg some (by kernel_rfl))⟩,
  f34 := ⟨Tryz.f120.name, by decide, Tryz.func120.trans (congrArg some (by kernel_rfl))⟩,
  f35 := ⟨Tryz.f121.name, by decide, Tryz.func121.trans (congrArg some (by kernel_rfl))⟩,
  f40 := ⟨Tryz.f125.name, by decide, Tryz.func125.trans (congrArg some (by kernel_rfl))⟩,
  t0 := Tryz.underlying0,
  a0 := Tryz.isAgg0,
  z0 := Tryz.sizeOf0,
  v0 := Tryz.zeroValue0,
  t3 := Tryz.underlying3,
  a3 := Tryz.isAgg3,
  z3 := Tryz.sizeOf3,
  v3 := Tryz.zeroValue3,
  t4 := Tryz.underlying4,
  a4 := Tryz.isAgg4,
  z4 := Tryz.sizeOf4,
  v4 := Tryz.zeroValue4,
  t5 := Tryz.underlying5,
  a5 := Tryz.isAgg5,
  z5 := Tryz.sizeOf5,
  v5 := Tryz.zeroValue5,
  t9 := Tryz.underlying9,
  a9 := Tryz.isAgg9,
  z9 := Tryz.sizeOf9,
  v9 := Tryz.zeroValue9,
  t22 := Tryz.underlying31,
  a22 := Tryz.isAgg31,
  z22 := Tryz.sizeOf31,
  v22 := Tryz.zeroValue31,
  t23 := Tryz.underlying31,
  a23 := Tryz.isAgg31,
  z23 := Tryz.sizeOf31,
  v23 := Tryz.zeroValue31,
  t25 := Tryz.underlying3,
  a25 := Tryz.isAgg3,
  z25 := Tryz.sizeOf3,
  v25 := Tryz.zeroValue3,
  t32 := Tryz.underlying98,
  a32 := Tryz.isAgg98,
  z32 := Tryz.sizeOf98,
  v32 := Tryz.zeroValue98,
  t35 := Tryz.underlying129,
  a35 := Tryz.isAgg129,
  z35 := Tryz.sizeOf129,
  v35 := Tryz.zeroValue129,
  t36 := Tryz.underlying130,
  a36 := Tryz.isAgg130,
  z36 := Tryz.sizeOf130,
  v36 := Tryz.zeroValue130,
  t41 := Tryz.underlying135,
  a41 := Tryz.isAgg135,
  z41 := Tryz.sizeOf135,
  v41 := Tryz.zeroValue135,
  t44 := Tryz.underlying57,
  a44 := Tryz.isAgg57,
  z44 := Tryz.sizeOf57,
  v44 := Tryz.zeroValue57,
  t46 := Tryz.underlying116,
  a46 := Tryz.isAgg116,
  z46 := Tryz.sizeOf116,
  v46 := Tryz.zeroValue116,
  t53 := Tryz.underlying154,
  a53 := Tryz.isAgg154,
  z53 := Tryz.sizeOf154,
  v53 := Tryz.zeroValue154,
  t57 := Tryz.underlying158,
  a57 := Tryz.isAgg158,
  z57 := Tryz.sizeOf158,
  v57 := Tryz.zeroValue158,
  t63 := Tryz.underlying167,
  a63 := Tryz.isAgg167,
  z63 := Tryz.sizeOf167,
  v63 := Tryz.zeroValue167,
  t64 := Tryz.underlying168,
  a64 := Tryz.isAgg168,
  z64 := Tryz.sizeOf168,
  v64 := Tryz.zeroValue168}
def layKeysH_ren : Go.Shelf.Ren := ⟨fun | 7 => 41 | 10 => 64 | n => n, fun | 23 => 47 | 26 => 3 | 3 => 59 | 28 => 64 | 0 => 0 | 27 => 63 | 33 => 41 | 4 => 4 | n => n, fun | n => n⟩
theorem layKeysH : Go.Proofs.SlLaysZI.n7 Tryz.prog layKeysH_ren := {
  mixed := by kernel_rfl,
  f7 := ⟨Tryz.f41.name, by decide, Tryz.func41.trans (congrArg some (by kernel_rfl))⟩,
  f10 := ⟨Tryz.f64.name, by decide, Tryz.func64.trans (congrArg some (by kernel_rfl))⟩,
  t0 := Tryz.underlying0,
  a0 := Tryz.isAgg0,
  z0 := Tryz.sizeOf0,
  v0 := Tryz.zeroValue0,
  t4 := Tryz.underlying4,
  a4 := Tryz.isAgg4,
  z4 := Tryz.sizeOf4,
  v4 := Tryz.zeroValue4,
  t23 := Tryz.underlying47,
  a23 := Tryz.isAgg47,
  z23 := Tryz.sizeOf47,
  v23 := Tryz.zeroValue47,
  t26 := Tryz.underlying3,
  a26 := Tryz.isAgg3,
  z26 := Tryz.sizeOf3,
  v26 := Tryz.zeroValue3,
  t27 := Tryz.underlying63,
  a27 := Tryz.isAgg63,
  z27 := Tryz.sizeOf63,
  v27 := Tryz.zeroValue63,
  t28 := Tryz.underlying64,
  a28 := Tryz.isAgg64,
  z28 := Tryz.sizeOf64,
  v28 := Tryz.zeroValue64,
  t33 := Tryz.underlying41,
  a33 := Tryz.isAgg41,
  z33 := Tryz.sizeOf41,
  v33 := Tryz.zeroValue41}
def laySortedI_ren : Go.Shelf.Ren := ⟨fun | 6 => 40 | 8 => 62 | 9 => 63 | 11 => 77 | 13 => 67 | 12 => 78 | 23 => 88 | 24 => 89 | 14 => 98 | 15 => 99 | 16 => 100 | 17 => 101 | 18 => 102 | 19 => 103 | 20 => 104 | 21 => 105 | 22 => 106 | 25 => 118 | 26 => 108 | 27 => 109 | 28 => 119 | 29 => 120 | 30 => 121 | 31 => 125 | n => n, fun | 26 => 3 | 28 => 64 | 24 => 31 | 0 => 0 | 3 => 3 | 37 => 98 | 48 => 57 | 50 => 116 | 4 => 4 | 40 => 130 | 39 => 129 | 45 => 135 | 5 => 5 | 9 => 9 | 51 => 154 | 55 => 158 | 57 => 167 | 58 => 168 | 33 => 41 | n => n, fun | n => n⟩
theorem laySortedI : Go.Proofs.SlLaysZI.n6 Tryz.prog laySortedI_ren := {
  mixed := by kernel_rfl,
  f6 := ⟨Tryz.f40.name, by decide, Tryz.func40.trans (congrArg some (by kernel_rfl))⟩,
  f8 := ⟨Tryz.f62.name, by decide, Tryz.func62.trans (congrArg some (by kernel_rfl))⟩,
  f11 := ⟨Tryz.f77.name, by decide, Tryz.func77.trans (congrArg some (by kernel_rfl))⟩,
  t0 := Tryz.underlying0,
  a0 := Tryz.isAgg0,
  z0 := Tryz.sizeOf0,
  v0 := Tryz.zeroValue0,
  t24 := Tryz.underlying31,
  a24 := Tryz.isAgg31,
  z24 := Tryz.sizeOf31,
  v24 := Tryz.zeroValue31,
  t26 := Tryz.underlying3,
  a26 := Tryz.isAgg3,
  z26 := Tryz.sizeOf3,
  v26 := Tryz.zeroValue3,
  t28 := Tryz.underlying64,
  a28 := Tryz.isAgg64,
  z28 := Tryz.sizeOf64,
  v28 := Tryz.zeroValue64,
  i26 := by kernel_rfl}
end Go.Proofs.YtjemnkijoiehmaaGreatDoor
end

section
/- A range over a function, where the rounds own blocks (T), the one that is ranged over leaves those alone, and owes a fact of the world on what it yields. -/
namespace Go.Proofs.YtjemnkijoiehmaaGreatDoor
open Go.RowKit
/-- What speaks of blocks below B and of those in T alone. -/
def Stands {β : Type} (B : Nat) (J : β → (Nat → Prop) → World → Prop) : Prop := ∀ s T W W', J s T W → Fr W W' (fun k => B ≤ k ∧ ¬ T k) → J s T W'
/-- T grows by new blocks alone. -/
def Grows (W W' : World) (T T' : Nat → Prop) : Prop := ∀ k, T' k → T k ∨ (W.heap.size ≤ k ∧ k < W'.heap.size)
theorem Grows.refl (W W' : World) (T : Nat → Prop) : Grows W W' T T := fun _ h => .inl h
theorem Fr.putObj {W : World} {l : Nat} (o : Obj) {S : Nat → Prop} (h : S l) : Fr W (W.putObj l o) S :=
  ⟨rfl, rfl, rfl, by simp [World.putObj], fun k _ hn => World.putObj_heap_other (fun e => hn (e ▸ h))⟩
/-- A call of yield, at any depth. -/
def YieldW (P : Program) (l : Nat) (args : Array Value) (W : World) (R : Ending → World → Prop) : Prop := ∀ m, YieldAt Fence.wide m P l args W R
theorem YieldW.mono {P : Program} {l : Nat} {args : Array Value} {W : World} {R R' : Ending → World → Prop} (h : YieldW P l args W R) (hr : ∀ e w, R e w → R' e w) : YieldW P l args W R' := fun m => by
  obtain ⟨fn, tmps, assign, body, hy, hR⟩ := h m
  exact ⟨fn, tmps, assign, body, hy, hR.mono hr⟩
/-- What a function that is ranged over does with the rounds: O are its own blocks, Px is owed at each yield. -/
def SeqT {α : Type} (P : Program) (g : Nat) (lb : Array Value) (encs : α → Array Value) (Px : α → (Nat → Prop) → World → Prop) (S Sp : List α → Prop) (O : Nat → Prop) (w : World) : Prop :=
  ∀ (l : Nat) (J Jx : List α → (Nat → Prop) → World → Prop) (T0 : Nat → Prop) (W : World), Below w.heap.size w W → w.heap.size ≤ l → l < W.heap.size → (∀ k, T0 k → k < W.heap.size ∧ ¬ O k) → Stands W.heap.size J → Stands W.heap.size Jx →
    (∀ pre T x W1, J pre T W1 → Px x T W1 → Sp (pre ++ [x]) → YieldW P l (encs x) W1 fun e W' =>
      ∃ T', Grows W1 W' T T' ∧ ((e = .returned (.bool true) ∧ Fr W1 W' T ∧ J (pre ++ [x]) T' W') ∨ (e = .returned (.bool false) ∧ Fr W1 W' (fun k => T k ∨ k < W.heap.size) ∧ Jx (pre ++ [x]) T' W'))) →
    J [] T0 W →
    Calls P g (#[.func (.yield l) #[] #[]] ++ lb) W fun e W' => (∃ v, e = .returned v) ∧ ((∃ xs T, S xs ∧ J xs T W') ∨ (∃ pre T, Sp pre ∧ Jx pre T W'))
/-- How a round's body may be left. -/
def postT {α : Type} (B : Nat) (T : Nat → Prop) (I : List α → (Nat → Prop) → World → Prop) (Ix : Code → List α → (Nat → Prop) → World → Prop) (xs : List α) (W : World) : Exit → Act → World → Prop
  | .normal, _, W' => ∃ T', Fr W W' T ∧ Grows W W' T T' ∧ I xs T' W'
  | .ret, _, W' => ∃ T', Fr W W' (fun k => T k ∨ k < B) ∧ Grows W W' T T' ∧ Ix .ret xs T' W'
  | .exit id, _, W' => ∃ T', Fr W W' (fun k => T k ∨ k < B) ∧ Grows W W' T T' ∧ Ix (.exit id) xs T' W'
  | .goto t, _, W' => ∃ T', Fr W W' (fun k => T k ∨ k < B) ∧ Grows W W' T T' ∧ Ix (.goto t) xs T' W'
  | .panic _, _, _ => False
  | .outgrown, _, _ => False
/-- The range. -/
theorem wpIn_rangeT {α : Type} {P : Program} {n : Nat} {g : Operand} {ps : Array Tmp} {assign body : Code} {Q : Exit → Act → World → Prop} {a : Act} {w : World}
    {gf : Nat} {lb : Array Value} (hg : a.eval g = .func (.func gf) #[] lb) (eg : ∀ args w, (callFunc gf args).run P w = .ok (.enter gf args) w)
    {encs : α → Array Value} {Px : α → (Nat → Prop) → World → Prop} {S Sp : List α → Prop} {O : Nat → Prop} {w0 : World} (hseq : SeqT P gf lb encs Px S Sp O w0) (hb0 : Below w0.heap.size w0 w) (hps : ∀ x, (encs x).size = ps.size)
    (I : List α → (Nat → Prop) → World → Prop) (Ix : Code → List α → (Nat → Prop) → World → Prop) (hI : Stands w.heap.size I) (hIx : ∀ c, Stands w.heap.size (Ix c)) (T0 : Nat → Prop) (hT0 : ∀ k, T0 k → k < w.heap.size ∧ ¬ O k) (h0 : I [] T0 w)
    (hround : ∀ (m l : Nat) (pre : List α) (T : Nat → Prop) (x : α) (W : World), w.heap.size ≤ l → (∃ r, W.heap[l]? = some (.loop r)) → ¬ T l → I pre T W → Px x T W → Sp (pre ++ [x]) →
      assign.wpIn (Fence.wide.inRound l) m P (Exit.then (fun a' W' => Fr W W' (fun _ => False) ∧ ∀ W'', Fr W' W'' (fun k => k = l) → body.wpIn (Fence.wide.inRound l) m P (postT w.heap.size T I Ix (pre ++ [x]) W'') a' W'') (fun _ _ _ => False))
        { tmps := (ps.zip (encs x)).foldl (fun t (p, v) => t.setIfInBounds p v) a.tmps, defers := [] } W)
    (hdone : ∀ (D : Nat) (xs : List α) (T : Nat → Prop) (W : World), w.heap.size ≤ D → S xs → I xs T W → ¬ T D → W.heap[D]? = some (.deferred (some [])) → Q .normal { a with defers := { target := .collected D, args := #[] } :: a.defers } W)
    (hstop : ∀ (D : Nat) (c : Code) (pre : List α) (T : Nat → Prop) (W : World), w.heap.size ≤ D → Sp pre → Ix c pre T W → ¬ T D → W.heap[D]? = some (.deferred (some [])) → c.wpIn Fence.wide n P Q { a with defers := { target := .collected D, args := #[] } :: a.defers } W) :
    (Code.rangeFunc g ps assign body).wpIn Fence.wide n P Q a w := by
  refine wpIn_rangeFunc ?_
  intro fn hfn
  obtain ⟨rec, hrec⟩ : ∃ rec : LoopState → Option Code → Loop, rec = fun st pe => { state := st, pending := pe, fn, tmps := a.tmps, params := ps, assign, body, defers := w.heap.size } := ⟨_, rfl⟩
  obtain ⟨L, hL⟩ : ∃ L, w.heap.size + 1 = L := ⟨_, rfl⟩
  obtain ⟨W1, hW1⟩ : ∃ W1, (w.alloc (.deferred (some []))).alloc (.loop (rec .ready none)) = W1 := ⟨_, rfl⟩
  have hL1 : W1.heap[L]? = some (.loop (rec .ready none)) := by
    rw [← hW1, ← hL]; have := World.alloc_heap_new (w.alloc (.deferred (some []))) (.loop (rec .ready none)); rwa [World.size_alloc] at this
  have hK1 : W1.heap[w.heap.size]? = some (.deferred (some [])) := by
    rw [← hW1]; exact (Below.heap_alloc _ _ _ (by simp)).trans (World.alloc_heap_new w _)
  have hf1 : Below w.heap.size w W1 := by rw [← hW1]; exact ((Below.refl _ w).alloc (Nat.le_refl _) _).alloc (by simp) _
  have hs1 : W1.heap.size = L + 1 := by rw [← hW1, ← hL]; simp
  have hI1 : I [] T0 W1 := hI _ _ _ _ h0 (Fr.ofBelow hf1 _)
  refine ⟨L, [{ target := .collected w.heap.size, args := #[] }], W1, { target := .fn (.func gf) lb, args := #[.func (.yield L) #[] #[]] }, W1, gf, #[.func (.yield L) #[] #[]] ++ lb, W1, ?_, ?_, fun _ _ => trivial, ?_, fun h => by simp [Fence.wide] at h, callsIn_wide.2 ?_⟩
  · rw [← hW1, ← hL, hrec]; exact run_enterLoop_outer _ _ _ _ _
  · simp only [resolve, hg]
    simp [go_sem]
  · simp [invoke, go_sem, eg]
  · have keep : ∀ {A B : World} {T : Nat → Prop} {k : Nat} {o : Obj}, A.heap[k]? = some o → Fr A B (fun k => W1.heap.size ≤ k ∧ ¬ T k) → k < W1.heap.size → B.heap[k]? = some o := fun ho f hk => (f.block _ (Array.getElem?_eq_some_iff.1 ho).1 (by omega)).trans ho
    refine (hseq L
      (fun pre T W => I pre T W ∧ W.heap[L]? = some (.loop (rec .ready none)) ∧ W.heap[w.heap.size]? = some (.deferred (some [])) ∧ ¬ T L ∧ ¬ T w.heap.size)
      (fun pre T W => ∃ c, Ix c pre T W ∧ W.heap[L]? = some (.loop (rec .done (some c))) ∧ W.heap[w.heap.size]? = some (.deferred (some [])) ∧ ¬ T L ∧ ¬ T w.heap.size)
      T0 W1 (hb0.trans (hf1.mono hb0.size)) (by have := hb0.size; omega) (by omega) (fun k hk => ⟨by have := (hT0 k hk).1; omega, (hT0 k hk).2⟩)
      (fun s T A B hs f => ⟨hI s T A B hs.1 (f.mono (fun i _ hi => ⟨by have := hi.1; omega, hi.2⟩)), keep hs.2.1 f (by omega), keep hs.2.2.1 f (by omega), hs.2.2.2⟩)
      (fun s T A B hs f => by
        obtain ⟨c, h1, h2, h3, h4⟩ := hs
        exact ⟨c, hIx c s T A B h1 (f.mono (fun i _ hi => ⟨by have := hi.1; omega, hi.2⟩)), keep h2 f (by omega), keep h3 f (by omega), h4⟩)
      ?_ ⟨hI1, hL1, hK1, fun h => by have := (hT0 _ h).1; omega, fun h => by have := (hT0 _ h).1; omega⟩).mono ?_
    · rintro pre T x W ⟨hi, hl, hk, hTL, hTD⟩ hpx hlen m
      have hy := run_yield (P := P) (args := encs x) hl (by rw [hrec]; exact hps x)
      rw [hrec] at hy
      refine ⟨fn, _, assign, body, hy, roundIn_of_wpIn hfn (wpIn_mono (hround m L pre T x W (by omega) ⟨_, hl⟩ hTL hi hpx hlen) ?_)⟩
      clear hy
      intro e a' Wa he
      cases e with
      | normal =>
        obtain ⟨fa, hbody⟩ := he
        have hla := (fa.block _ (Array.getElem?_eq_some_iff.1 hl).1 (fun h => h)).trans hl
        have hka := (fa.block _ (Array.getElem?_eq_some_iff.1 hk).1 (fun h => h)).trans hk
        have hlt : L < Wa.heap.size := (Array.getElem?_eq_some_iff.1 hla).1
        refine ⟨_, run_beginRound hla (by rw [hrec]), ?_⟩
        obtain ⟨Wb, hWb⟩ : ∃ Wb, Wa.putObj L (.loop { rec .ready none with state := .busy }) = Wb := ⟨_, rfl⟩
        have fb : Fr Wa Wb (fun k => k = L) := by rw [← hWb]; exact Fr.putObj _ rfl
        have hlb : Wb.heap[L]? = some (.loop { rec .ready none with state := .busy }) := by rw [← hWb]; exact World.putObj_heap_same hlt
        have hkb : Wb.heap[w.heap.size]? = some (.deferred (some [])) := (fb.block _ (Array.getElem?_eq_some_iff.1 hka).1 (by omega)).trans hka
        rw [hWb]
        refine wpIn_mono (hbody Wb fb) ?_
        have fin : ∀ (jump : Option Code) (T' : Nat → Prop) (W3 : World), Fr Wb W3 (fun k => T k ∨ k < w.heap.size) → Grows Wb W3 T T' → ∃ W4, (Instr.endRound L jump).run P W3 = .ok (.bool jump.isNone) W4 ∧ W4.heap[L]? = some (.loop (rec (if jump.isNone then .ready else .done) jump)) ∧ W4.heap[w.heap.size]? = some (.deferred (some [])) ∧ Fr W3 W4 (fun k => w.heap.size ≤ k ∧ ¬ T' k) ∧ Fr W3 W4 (fun k => k = L) ∧ Grows W W4 T T' ∧ ¬ T' L ∧ ¬ T' w.heap.size := by
          intro jump T' W3 f3 g3
          have hl3 := (f3.block _ (Array.getElem?_eq_some_iff.1 hlb).1 (fun h => h.elim hTL (by omega))).trans hlb
          have hk3 := (f3.block _ (Array.getElem?_eq_some_iff.1 hkb).1 (fun h => h.elim hTD (by omega))).trans hkb
          have := run_endRound (P := P) jump hl3
          rw [hrec] at this
          have fe : Fr W3 (W3.putObj L (.loop (rec (if jump.isNone then .ready else .done) jump))) (fun k => k = L) := Fr.putObj _ rfl
          have hs : W.heap.size ≤ Wb.heap.size := Nat.le_trans fa.size fb.size
          have hTL' : ¬ T' L := fun h => by
            rcases g3 _ h with h | h
            · exact hTL h
            · have := (Array.getElem?_eq_some_iff.1 hlb).1; omega
          refine ⟨_, by rw [hrec]; exact this, World.putObj_heap_same (Array.getElem?_eq_some_iff.1 hl3).1, (fe.block _ (Array.getElem?_eq_some_iff.1 hk3).1 (by omega)).trans hk3, fe.mono (fun i _ e => by subst e; exact ⟨by omega, hTL'⟩), fe, fun k hk => ?_, hTL', fun h => ?_⟩
          · rcases g3 k hk with h | h
            · exact .inl h
            · exact .inr ⟨by omega, Nat.lt_of_lt_of_le h.2 fe.size⟩
          · rcases g3 _ h with h | h
            · exact hTD h
            · have := (Array.getElem?_eq_some_iff.1 hkb).1; omega
        have whole : ∀ {W3 W4 : World}, Fr Wb W3 (fun k => T k ∨ k < w.heap.size) → Fr W3 W4 (fun k => k = L) → Fr W W4 (fun k => T k ∨ k < W1.heap.size) := fun f3 fe =>
          (((fa.mono (T := fun k => T k ∨ k < W1.heap.size) (fun _ _ h => h.elim)).trans fb (fun _ _ h => .inr (by omega))).trans f3 (fun _ _ h => h.elim .inl (fun h => .inr (by omega)))).trans fe (fun _ _ h => .inr (by omega))
        rintro e a3 W3 hp
        cases e with
        | normal =>
          obtain ⟨T', f3, g3, hi3⟩ := hp
          obtain ⟨W4, hr, hl4, hk4, f4, fe, gW, n1, n2⟩ := fin none T' W3 (f3.mono (fun _ _ h => .inl h)) g3
          have fW : Fr W W4 (fun k => T k ∨ k = L) := (((fa.mono (T := fun k => T k ∨ k = L) (fun _ _ h => h.elim)).trans fb (fun _ _ h => .inr h)).trans f3 (fun _ _ h => .inl h)).trans fe (fun _ _ h => .inr h)
          refine ⟨_, W4, hr, T', gW, .inl ⟨rfl, ⟨fW.os, fW.tape, fW.output, fW.size, fun k hk hn => ?_⟩, hI _ _ _ _ hi3 f4, hl4, hk4, n1, n2⟩⟩
          by_cases e : k = L
          · subst e
            exact hl4.trans hl.symm
          · exact fW.block k hk (fun h => h.elim hn e)
        | ret =>
          obtain ⟨T', f3, g3, hi3⟩ := hp
          obtain ⟨W4, hr, hl4, hk4, f4, fe, gW, n1, n2⟩ := fin (some .ret) T' W3 f3 g3
          exact ⟨_, W4, hr, T', gW, .inr ⟨rfl, whole f3 fe, .ret, hIx _ _ _ _ _ hi3 f4, hl4, hk4, n1, n2⟩⟩
        | exit id =>
          obtain ⟨T', f3, g3, hi3⟩ := hp
          obtain ⟨W4, hr, hl4, hk4, f4, fe, gW, n1, n2⟩ := fin (some (.exit id)) T' W3 f3 g3
          exact ⟨_, W4, hr, T', gW, .inr ⟨rfl, whole f3 fe, .exit id, hIx _ _ _ _ _ hi3 f4, hl4, hk4, n1, n2⟩⟩
        | goto t =>
          obtain ⟨T', f3, g3, hi3⟩ := hp
          obtain ⟨W4, hr, hl4, hk4, f4, fe, gW, n1, n2⟩ := fin (some (.goto t)) T' W3 f3 g3
          exact ⟨_, W4, hr, T', gW, .inr ⟨rfl, whole f3 fe, .goto t, hIx _ _ _ _ _ hi3 f4, hl4, hk4, n1, n2⟩⟩
        | panic ch => exact hp.elim
        | outgrown => exact hp.elim
      | _ => exact he.elim
    · have put : ∀ {A : World} {T : Nat → Prop} {o : Obj}, ¬ T L → Fr A (A.putObj L o) (fun k => w.heap.size ≤ k ∧ ¬ T k) := fun h => Fr.putObj _ ⟨by omega, h⟩
      rintro e W2 ⟨⟨v, rfl⟩, (⟨xs, T, hS, hi, hl, hk, n1, n2⟩ | ⟨pre, T, hSp, c, hi, hl, hk, n1, n2⟩)⟩
      · exact ⟨none, _, by have := run_endLoop (P := P) hl (by rw [hrec]; simp); rw [hrec] at this; exact this, hdone _ xs T _ (Nat.le_refl _) hS (hI _ _ _ _ hi (put n1)) n2 ((World.putObj_heap_other (by omega)).trans hk)⟩
      · exact ⟨some c, _, by have := run_endLoop (P := P) hl (by rw [hrec]; simp); rw [hrec] at this; exact this, hstop _ c pre T _ (Nat.le_refl _) hSp (hIx c _ _ _ _ hi (put n1)) n2 ((World.putObj_heap_other (by omega)).trans hk)⟩
theorem ret_marks1 {P : Program} {fn : Func} {R : Ending → World → Prop} {a : Act} {w : World} {v : Value} {D : Nat} (hr : (results fn a.tmps).run P (w.putObj D (.deferred none)) = .ok v (w.putObj D (.deferred none))) (hd : a.defers = [{ target := .collected D, args := #[] }]) (hK : w.heap[D]? = some (.deferred (some []))) (h : R (.returned v) (w.putObj D (.deferred none))) : bodyPostM Fence.wide 9 P fn R .ret a w := by
  show LeavesInM _ _ _ _ _ _ a.defers _ _
  rw [hd]
  exact ⟨by simp, .inl ⟨_, _, rfl, run_takeDeferred hK, v, hr, h⟩⟩
end Go.Proofs.YtjemnkijoiehmaaGreatDoor
end

section
/- Graphs as plain lists: which may be, their bytes; how they lie in memory; what a call leaves of them. No function of the program is named here. -/
namespace Go.Proofs.YtjemnkijoiehmaaGreatDoor
open Go.RowKit

/-- An edge: its end and weight. -/
structure Ed where
  t : Int
  w : Int
/-- A vertex: its number, its value, its edges. -/
structure Vx where
  id : Int
  val : Int
  es : List Ed
/-- A number of 64 bits with a sign. -/
def I64 (x : Int) : Prop := -9223372036854775808 ≤ x ∧ x ≤ 9223372036854775807
structure Ed.ok (e : Ed) : Prop where
  t : I64 e.t
  w : I64 e.w
structure Vx.ok (v : Vx) : Prop where
  id : I64 v.id
  val : I64 v.val
  es : ∀ e ∈ v.es, e.ok
  len : v.es.length ≤ 8796093022208
/-- Edges lie in memory from an address on, in a block that P names. -/
def EdAt (w : World) (P : Nat → Prop) (ao : Option Addr) (L : List Ed) : Prop :=
  0 < L.length → ∃ b off, ao = some ⟨b, off, none⟩ ∧ P b ∧ ∀ j (h : j < L.length), w.cell? ⟨b, off + j * 2, none⟩ = some (.int .i64 L[j].t) ∧ w.cell? ⟨b, off + j * 2 + 1, none⟩ = some (.int .i64 L[j].w)
/-- A vertex's three cells. -/
def VxCell (w : World) (P : Nat → Prop) (b o : Nat) (v : Vx) : Prop :=
  ∃ eo ec, w.cell? ⟨b, o, none⟩ = some (.int .i64 v.id) ∧ w.cell? ⟨b, o + 1, none⟩ = some (.int .i64 v.val) ∧ w.cell? ⟨b, o + 2, none⟩ = some (.slice eo v.es.length ec) ∧ EdAt w P eo v.es
/-- Vertices lie in memory from an address on. -/
def VxAt (w : World) (P : Nat → Prop) (ao : Option Addr) (G : List Vx) : Prop :=
  0 < G.length → ∃ b off, ao = some ⟨b, off, none⟩ ∧ P b ∧ ∀ j (h : j < G.length), VxCell w P b (off + j * 3) G[j]
theorem lt_cell {w : World} {b o : Nat} {u : Value} (h : w.cell? ⟨b, o, none⟩ = some u) : b < w.heap.size := World.block_lt_of_cell? w ⟨b, o, none⟩ h
theorem fr_cell {w w' : World} {S : Nat → Prop} (f : Fr w w' S) {b o : Nat} {u : Value} (hb : ¬ S b) (h : w.cell? ⟨b, o, none⟩ = some u) : w'.cell? ⟨b, o, none⟩ = some u :=
  (World.cell?_of_block (w := w) (w' := w') (a := ⟨b, o, none⟩) (f.block b (lt_cell h) hb)).trans h
theorem EdAt.kept {w w' : World} {P Q S : Nat → Prop} {ao : Option Addr} {L : List Ed} (h : EdAt w P ao L) (f : Fr w w' S) (hs : ∀ k, k < w.heap.size → P k → ¬ S k ∧ Q k) : EdAt w' Q ao L := by
  intro hl
  obtain ⟨b, off, e, hb, hc⟩ := h hl
  have hlt := lt_cell (hc 0 hl).1
  refine ⟨b, off, e, (hs b hlt hb).2, fun j hj => ⟨fr_cell f (hs b hlt hb).1 (hc j hj).1, fr_cell f (hs b hlt hb).1 (hc j hj).2⟩⟩
theorem VxCell.kept {w w' : World} {P Q S : Nat → Prop} {b o : Nat} {v : Vx} (h : VxCell w P b o v) (f : Fr w w' S) (hb : ¬ S b) (hs : ∀ k, k < w.heap.size → P k → ¬ S k ∧ Q k) : VxCell w' Q b o v := by
  obtain ⟨eo, ec, h0, h1, h2, h3⟩ := h
  exact ⟨eo, ec, fr_cell f hb h0, fr_cell f hb h1, fr_cell f hb h2, h3.kept f hs⟩
theorem VxCell.lt {w : World} {P : Nat → Prop} {b o : Nat} {v : Vx} (h : VxCell w P b o v) : b < w.heap.size := by
  obtain ⟨eo, ec, h0, _⟩ := h
  exact lt_cell h0
theorem VxAt.kept {w w' : World} {P Q S : Nat → Prop} {ao : Option Addr} {G : List Vx} (h : VxAt w P ao G) (f : Fr w w' S) (hs : ∀ k, k < w.heap.size → P k → ¬ S k ∧ Q k) : VxAt w' Q ao G := by
  intro hl
  obtain ⟨b, off, e, hb, hc⟩ := h hl
  have hlt := (hc 0 hl).lt
  exact ⟨b, off, e, (hs b hlt hb).2, fun j hj => (hc j hj).kept f (hs b hlt hb).1 hs⟩
/-- What lay below a mark, and what was there, stays where new blocks alone are laid. -/
theorem EdAt.below {w w' : World} {P : Nat → Prop} {ao : Option Addr} {L : List Ed} (h : EdAt w P ao L) {B : Nat} (hb : Below B w w') (hP : ∀ k, k < w.heap.size → P k → k < B) : EdAt w' P ao L :=
  h.kept (S := fun k => B ≤ k) ⟨hb.os, hb.tape, hb.output, hb.size, fun k _ hn => hb.block k (by omega)⟩ (fun k hk hp => ⟨by have := hP k hk hp; omega, hp⟩)
theorem VxAt.below {w w' : World} {P : Nat → Prop} {ao : Option Addr} {G : List Vx} (h : VxAt w P ao G) {B : Nat} (hb : Below B w w') (hP : ∀ k, k < w.heap.size → P k → k < B) : VxAt w' P ao G :=
  h.kept (S := fun k => B ≤ k) ⟨hb.os, hb.tape, hb.output, hb.size, fun k _ hn => hb.block k (by omega)⟩ (fun k hk hp => ⟨by have := hP k hk hp; omega, hp⟩)
theorem VxCell.below {w w' : World} {P : Nat → Prop} {b o : Nat} {v : Vx} (h : VxCell w P b o v) {B : Nat} (hb : Below B w w') (hbB : b < B) (hP : ∀ k, k < w.heap.size → P k → k < B) : VxCell w' P b o v :=
  h.kept (S := fun k => B ≤ k) ⟨hb.os, hb.tape, hb.output, hb.size, fun k _ hn => hb.block k (by omega)⟩ (by omega) (fun k hk hp => ⟨by have := hP k hk hp; omega, hp⟩)
theorem EdAt.new {w w' : World} {P : Nat → Prop} {ao : Option Addr} {L : List Ed} (h : EdAt w P ao L) (hb : Below w.heap.size w w') : EdAt w' P ao L := h.below hb (fun _ hk _ => hk)
theorem VxAt.new {w w' : World} {P : Nat → Prop} {ao : Option Addr} {G : List Vx} (h : VxAt w P ao G) (hb : Below w.heap.size w w') : VxAt w' P ao G := h.below hb (fun _ hk _ => hk)
theorem EdAt.mono {w : World} {P Q : Nat → Prop} {ao : Option Addr} {L : List Ed} (h : EdAt w P ao L) (hs : ∀ k, k < w.heap.size → P k → Q k) : EdAt w Q ao L := h.kept (Fr.refl w (fun _ => False)) (fun k hk hp => ⟨fun h => h, hs k hk hp⟩)
theorem VxAt.mono {w : World} {P Q : Nat → Prop} {ao : Option Addr} {G : List Vx} (h : VxAt w P ao G) (hs : ∀ k, k < w.heap.size → P k → Q k) : VxAt w Q ao G := h.kept (Fr.refl w (fun _ => False)) (fun k hk hp => ⟨fun h => h, hs k hk hp⟩)

def Rise (l : List Int) : Prop := ∀ j (h : j + 1 < l.length), l[j] < l[j + 1]
theorem Rise.lt {l : List Int} (h : Rise l) : ∀ (j : Nat) (i : Nat) (hj : j < l.length) (hi : i < j), l[i] < l[j] := by
  intro j
  induction j with
  | zero => intro i _ hi; omega
  | succ j ih =>
    intro i hj hi
    have h1 := h j hj
    by_cases e : i = j
    · subst e; exact h1
    · exact Int.lt_trans (ih i (by omega) (by omega)) h1
def ends (L : List Ed) : List Int := L.map Ed.t
end Go.Proofs.YtjemnkijoiehmaaGreatDoor
end
