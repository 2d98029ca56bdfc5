import Derived.Test.YtjemnkijoiehmaaDoorStFiM
import Derived.Test.YtjemnkijoiehmaaDoorStUsM
/- store: New, Put, Get, Used, Spills. -/
namespace Go.Proofs.YtjemnkijoiehmaaDoor
open Go.RowKit Go.Maps
variable {Xm : Nat → Prop}
attribute [local go_sem] Oper.semAt_some
section
variable {w : World} {B q p c : Nat} {K : St} {A : Dk} {mb : Option Nat} {mv : Value} {n : Int} {t : Bs}
theorem sfind (h : SA0 Xm w B q p K A c mb mv) (hn : I6 n) : Calls Tryd.prog 12 #[.pointer (some ⟨q, 0, none⟩), .int .i64 n] w fun r w' => r = .returned (fndV (K.f n)) ∧ Below w.heap.size w w' := by
  have hlk := h.tx.lookOk mtH hn
  rw [heldO_some] at hlk
  cases hf : K.f n with
  | none =>
    rw [heldO_none hf, hf] at hlk
    exact sfind_here (hd := ⟨[], false, 0⟩) (ok := false) h.blk.cells.2.2.1 hlk rfl
  | some s =>
    by_cases hx : n ∈ K.near
    · rw [heldO_near hf hx, hf] at hlk
      exact sfind_here (hd := ⟨s, false, 0⟩) (ok := true) h.blk.cells.2.2.1 hlk rfl
    · rw [heldO_away hf hx, hf] at hlk
      have hr := h.ok.sup n (by rw [hf]; rfl)
      exact sfind_away (h.ok.siz n s hf) hr.1 hr.2 h.blk h.dk h.di (h.fl n s hf hx) hlk
set_option maxRecDepth 100000 in
theorem sput_ok (h : SA Xm w B q p K c) (hB : B ≤ w.heap.size) (hc : c ≤ 900000) (h0 : 0 ≤ n) (h1 : n < 16) (ht : t.length ≤ 140737488351232) (hsp : K.sp ≤ 1000000) : Calls Tryd.prog 9 #[.pointer (some ⟨q, 0, none⟩), .int .i64 n, .string (str t)] w fun r w' => r = .returned (.int .i64 0) ∧ SA Xm w' B q p (K.use n t) (c + 16) ∧ FrT Xm B w w' := by
  obtain ⟨A, mb, mv, h⟩ := h
  have hU := suse h hB hc h0 h1 ht hsp
  clear h hB hc ht hsp
  go_enter Tryd.func9, Tryd.ntmps9
  go_wp2_with (go_at_call 13; refine Calls.mono hU ?_; rintro r w2 ⟨rfl, e1, e2⟩; have E1 : Hid (SA Xm w2 B q p (K.use n t) (c + 16)) := e1; have E2 : Hid (FrT Xm B w w2) := e2; clear e1 e2)
  go_ret
  exact ⟨rfl, E1.out, E2.out⟩
set_option maxRecDepth 100000 in
theorem sput_bad (hn : n < 0 ∨ 16 ≤ n) : Calls Tryd.prog 9 #[.pointer (some ⟨q, 0, none⟩), .int .i64 n, .string (str t)] w fun r w' => r = .returned (.int .i64 1) ∧ w' = w := by
  by_cases h0 : n < 0
  · go_enter Tryd.func9, Tryd.ntmps9
    go_wp2
    go_ret
    exact ⟨rfl, rfl⟩
  · have h1 : 16 ≤ n := by omega
    have h2 : 0 ≤ n := by omega
    clear h0 hn
    go_enter Tryd.func9, Tryd.ntmps9
    go_wp2
    go_ret
    exact ⟨rfl, rfl⟩
set_option maxRecDepth 100000 in
theorem sget_some {s : Bs} (h : SA Xm w B q p K c) (hB : B ≤ w.heap.size) (hc : c ≤ 900000) (hf : K.f n = some s) (hsp : K.sp ≤ 1000000) : Calls Tryd.prog 7 #[.pointer (some ⟨q, 0, none⟩), .int .i64 n] w fun r w' => r = .returned (.tuple #[.string (str s), .int .i64 0]) ∧ SA Xm w' B q p (K.use n s) (c + 16) ∧ FrT Xm B w w' := by
  obtain ⟨A, mb, mv, h⟩ := h
  have hr := h.ok.sup n (by rw [hf]; rfl)
  have hF := sfind h (i6_few hr.1 hr.2)
  rw [hf] at hF
  have HU : Hid (∀ W, Below w.heap.size w W → Calls Tryd.prog 13 #[.pointer (some ⟨q, 0, none⟩), .int .i64 n, .string (str s)] W fun r w' => r = .returned (.int .i64 0) ∧ SA Xm w' B q p (K.use n s) (c + 16) ∧ FrT Xm B W w') := fun W hW => suse (h.new hW) (Nat.le_trans hB hW.size) hc hr.1 hr.2 (h.ok.siz n s hf) hsp
  simp only [fndV, Option.getD_some, Option.isSome_some, if_true] at hF
  clear h hB hc hf hsp hr
  go_enter Tryd.func7, Tryd.ntmps7
  go_wp2_with (first
    | (go_at_call 12; refine Calls.mono hF ?_; rintro r w1 ⟨rfl, e1⟩; have hU := HU.out w1 e1; have E0 : Hid (Below w.heap.size w w1) := e1; clear e1 hF)
    | (go_at_call 13; refine Calls.mono hU ?_; rintro r w2 ⟨rfl, e1, e2⟩; have E1 : Hid (SA Xm w2 B q p (K.use n s) (c + 16)) := e1; have E2 : Hid (FrT Xm B w1 w2) := e2; clear e1 e2))
  go_ret2
  exact ⟨rfl, E1.out, (FrT.new E0.out).trans E2.out⟩
set_option maxRecDepth 100000 in
theorem sget_none (h : SA Xm w B q p K c) (hi : I6 n) (hf : K.f n = none) : Calls Tryd.prog 7 #[.pointer (some ⟨q, 0, none⟩), .int .i64 n] w fun r w' => r = .returned (.tuple #[.string (str []), .int .i64 2]) ∧ Below w.heap.size w w' := by
  obtain ⟨A, mb, mv, h⟩ := h
  have hF := sfind h hi
  rw [hf] at hF
  simp only [fndV, Option.getD_none, Option.isSome_none, Bool.false_eq_true, if_false] at hF
  clear h hf
  go_enter Tryd.func7, Tryd.ntmps7
  go_wp2_with (go_at_call 12; refine Calls.mono hF ?_; rintro r w1 ⟨rfl, e1⟩; have E0 : Hid (Below w.heap.size w w1) := e1; clear e1 hF)
  go_ret2
  exact ⟨rfl, E0.out⟩
/-- A store with nothing. -/
def St.new (bud : Int) : St := ⟨noneO, [], 0, bud⟩
theorem St.new_ok {bud : Int} (h : I6 bud) : (St.new bud).ok := ⟨Sup.none, List.nodup_nil, fun x hx => (by cases hx), fun x t hx => (by cases hx), h⟩
set_option maxRecDepth 100000 in
theorem snew_ok {bud : Int} (hd : DkAt Xm w B p ⟨[], [], 0, false, .slice none 0 0⟩) (hB : B ≤ w.heap.size) (h0 : 0 ≤ bud) (h1 : bud ≤ 9223372036854775807) : Calls Tryd.prog 4 #[.pointer (some ⟨p, 0, none⟩), .int .i64 bud] w fun r w' => r = .returned (.tuple #[.pointer (some ⟨w.heap.size, 0, none⟩), .int .i64 0]) ∧ SA Xm w' B w.heap.size p (St.new bud) 0 ∧ Below w.heap.size w w' := by
  obtain ⟨W, hW⟩ : ∃ W, w.alloc (.cells #[.pointer (some ⟨p, 0, none⟩), .int .i64 bud, .map none, .slice none 0 0, .int .i64 0] 41) = W := ⟨_, rfl⟩
  have hb : Below w.heap.size w W := by rw [← hW]; exact gone_new _ _
  have hE : SA Xm W B w.heap.size p (St.new bud) 0 := by
    refine ⟨_, none, .slice none 0 0, (show StBl W w.heap.size p bud 0 none (.slice none 0 0) by rw [← hW]; exact heap_alloc_new _ _), rfl, NrO.nil _ _, (hd.new hb).less (fun k e => by rcases e with e | e; exact e; cases e), ⟨rfl, rfl, Nat.le_refl _, Nat.le_refl _, Nat.le_refl _, fun p hp => (by cases hp)⟩, St.new_ok ⟨by omega, h1⟩, fun x s hx => (by cases hx), hB, fun k e => (by cases e), fun e => ?_, fun k e => (by cases e), fun k e => (by cases e)⟩
    obtain ⟨mn, ms, lv, hA⟩ := hd
    have := hA.lx _ e
    omega
  have HE : Hid (SA Xm W B w.heap.size p (St.new bud) 0) := hE
  have HB : Hid (Below w.heap.size w W) := hb
  clear hb hE hd hB
  go_enter Tryd.func4, Tryd.ntmps4
  go_wp2
  go_ret2
  exact ⟨rfl, HE.out, HB.out⟩
theorem sspills (h : SA Xm w B q p K c) : Calls Tryd.prog 10 #[.pointer (some ⟨q, 0, none⟩)] w fun r w' => r = .returned (.int .i64 K.sp) ∧ w' = w := by
  obtain ⟨A, mb, mv, h⟩ := h
  obtain ⟨c0, c1, c2, c3, c4⟩ := h.blk.cells
  clear h
  go_enter Tryd.func10, Tryd.ntmps10
  go_wp2
  go_ret
  exact ⟨rfl, rfl⟩
end
end Go.Proofs.YtjemnkijoiehmaaDoor
