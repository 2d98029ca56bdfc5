/- The document's files with one laid, and without one. -/
import Derived.Test.YthpojidkmmflhaaRfFind
namespace Go.Proofs.Ythpojidkmmflhaa
open Go.RowKit Go.Maps
attribute [local go_sem] Oper.semAt_some
/-- Where a slice from an index on begins. -/
def subD (size : Nat) (go : Option Addr) (gc at_ : Nat) : Option Addr := if gc = at_ then go else go.map fun a => ⟨a.block, a.off + at_ * size, none⟩
theorem subD_some (size gb gc at_ : Nat) : subD size (some ⟨gb, 0, none⟩) gc at_ = if gc = at_ then some ⟨gb, 0, none⟩ else some ⟨gb, at_ * size, none⟩ := by unfold subD; split <;> simp
theorem subD_none (size : Nat) : subD size none 0 0 = none := rfl
theorem own_shapeD {w : World} {base : Nat} {e : TypeId} {size : Nat} {go : Option Addr} {n gn gc : Nat} {xs : List Value} (h : w.ownsRow base e size (.slice go gn gc) n xs) : gn = n ∧ n ≤ gc ∧ ((go = none ∧ n = 0 ∧ gc = 0) ∨ ∃ gb, go = some ⟨gb, 0, none⟩) := by
  rcases h.2 with ⟨h1, h2⟩ | ⟨g, cap, cur, h1, hb, hg, hn, hc, hcs, ht⟩
  · cases h1
    exact ⟨h2.symm, by omega, .inl ⟨rfl, h2, rfl⟩⟩
  · cases h1
    exact ⟨rfl, hn, .inr ⟨g, rfl⟩⟩
theorem src_takeD {w : World} {base : Nat} {e : TypeId} {size : Nat} {go : Option Addr} {n gc : Nat} {xs : List Value} (h : w.ownsRow base e size (.slice go n gc) n xs) (at_ : Nat) (hat : at_ ≤ n) : SrcD w go at_ (xs.take (at_ * size)) := by
  intro hl
  rcases (own_shapeD h).2.2 with ⟨_, h2, _⟩ | ⟨gb, rfl⟩
  · omega
  · refine ⟨gb, 0, rfl, fun j u hu => ?_⟩
    have := World.ownsRow.cells h (g := gb) rfl j u (by rw [List.getElem?_take] at hu; split at hu; exact hu; cases hu)
    rwa [Addr.add_lit] at this
theorem src_dropD {w : World} {base : Nat} {e : TypeId} {size : Nat} {go : Option Addr} {n gc : Nat} {xs : List Value} (h : w.ownsRow base e size (.slice go n gc) n xs) (at_ : Nat) : SrcD w (subD size go gc at_) (n - at_) (xs.drop (at_ * size)) := by
  intro hl
  rcases (own_shapeD h).2 with ⟨h1, ⟨_, h2, _⟩ | ⟨gb, rfl⟩⟩
  · omega
  · refine ⟨gb, at_ * size, by rw [subD_some, if_neg (by omega)], fun j u hu => ?_⟩
    rw [List.getElem?_drop] at hu
    have := World.ownsRow.cells h (g := gb) rfl _ u hu
    rwa [Addr.add_lit, Nat.zero_add] at this
theorem src_oneD {w : World} {h : Nat} {cs : Array Value} {t : TypeId} {f : Nat × Nat} (hb : w.heap[h]? = some (.cells cs t f)) : SrcD w (some ⟨h, 0, none⟩) 1 cs.toList := by
  intro _
  refine ⟨h, 0, rfl, fun j u hu => ?_⟩
  simp only [World.cell?, hb]
  simpa using hu
theorem own_emptyD {w : World} {base : Nat} {t : TypeId} {size : Nat} (hb : base ≤ w.heap.size) : (w.alloc (.cells #[] t)).ownsRow base t size (.slice (some ⟨w.heap.size, 0, none⟩) 0 0) 0 [] := World.ownsRow_made w #[] 0 hb (by decide) (by simp)
theorem infoFL : (Try.prog.info? 49).map (fun i => (i.zero, i.size, i.bytes)) = some (some (.agg #[.string (str []), .string (str [])]), 2, 32) := by kernel_rfl
theorem fl_drop (l : Fl) (i : Nat) : (l.flatMap flCells).drop (i * 2) = (l.drop i).flatMap flCells := by
  induction l generalizing i with
  | nil => simp
  | cons p r ih =>
    cases i with
    | zero => simp
    | succ i =>
      rw [List.flatMap_cons, List.drop_succ_cons, ← ih i, List.drop_append]
      have : (flCells p).length = 2 := rfl
      rw [List.drop_eq_nil_of_le (by rw [this]; omega), this, show (i + 1) * 2 - 2 = i * 2 by omega]
      rfl
theorem fl_take (l : Fl) (i : Nat) : (l.flatMap flCells).take (i * 2) = (l.take i).flatMap flCells := by
  induction l generalizing i with
  | nil => simp
  | cons p r ih =>
    cases i with
    | zero => simp
    | succ i =>
      rw [List.flatMap_cons, List.take_succ_cons, List.flatMap_cons, ← ih i, List.take_append]
      have : (flCells p).length = 2 := rfl
      rw [List.take_of_length_le (by rw [this]; omega), this, show (i + 1) * 2 - 2 = i * 2 by omega]
theorem app_belD {w W W' : World} {B : Nat} {e : TypeId} {size n : Nat} {v : Value} {xs : List Value} (hb : Below B w W) (hg : W.grownBy W' v.ownBlock) {V : World} (ho : V.ownsRow B e size v n xs) (hB : B ≤ w.heap.size := by exact Nat.le_refl _) : Below B w W' :=
  hb.trans (Fr.below (Fr.grown hg (fun _ e => e)) (Nat.le_trans hB hb.size) (fun k hk => (ho.lt k hk).1))
theorem fl_fin {w : World} {v : Value} {l m : Fl} {k x : Bs} {P R M B : Nat} (hq : m = l.take P ++ (k, x) :: l.drop R) (hP : P ≤ l.length) (hM : M = l.length - R) (ho : w.ownsRow B 49 2 v (0 + P + 1 + M) (([] ++ (l.take P).flatMap flCells) ++ [.string (str k), .string (str x)] ++ (l.drop R).flatMap flCells)) : FlAt w v m := by
  have hlen : m.length = 0 + P + 1 + M := by rw [hq, hM]; simp; omega
  have hcs : m.flatMap flCells = ([] ++ (l.take P).flatMap flCells) ++ [.string (str k), .string (str x)] ++ (l.drop R).flatMap flCells := by
    rw [hq, List.flatMap_append, List.flatMap_cons]
    simp [flCells]
  unfold FlAt
  rw [hlen, hcs]
  refine ⟨ho.1, ?_⟩
  rcases ho.2 with h | ⟨g, cap, cur, h1, _, h3⟩
  · exact .inl h
  · exact .inr ⟨g, cap, cur, h1, Nat.zero_le _, h3⟩
section
variable {w : World} {v : Value} {l : Fl} {k x : Bs}
set_option maxRecDepth 100000 in
set_option maxHeartbeats 4000000 in
theorem with_any (h : FlAt w v l) (hl : l.length ≤ 1000000) : Calls Try.prog 53 #[v, .string (str k), .string (str x)] w fun r w' => ∃ v', r = .returned v' ∧ FlAt w' v' (putF k x l) ∧ Below w.heap.size w w' := by
  obtain ⟨i0, hi, hz0, hz1, hz2⟩ := d_info infoFL
  have hF := find_any (k := k) h hl
  have HPut := putF_is k x l
  obtain ⟨ao, cp, rfl, hcp, hg⟩ := fl_shape h
  have HT : Hid (∀ W, Below w.heap.size w W → SrcD W ao (posF k l) ((l.take (posF k l)).flatMap flCells)) := fun W hb => by
    have := src_takeD (row_new h hb) (posF k l) (posF_le k l)
    rw [fl_take] at this
    exact this
  have HDr : Hid (∀ W ri, Below w.heap.size w W → SrcD W (subD 2 ao cp ri) (l.length - ri) ((l.drop ri).flatMap flCells)) := fun W ri hb => by
    have := src_dropD (row_new h hb) ri
    rw [fl_drop] at this
    exact this
  have hpl := posF_le k l
  have hsp : (getF k l).isSome = true → posF k l < l.length := fun hs => Nat.lt_of_not_le fun hh => by
    rw [getF_end k l (by omega)] at hs
    cases hs
  have hsh := (own_shapeD h).2.2
  have HPut' : Hid (putF k x l = l.take (posF k l) ++ (k, x) :: l.drop (if (getF k l).isSome then posF k l + 1 else posF k l)) := HPut
  obtain ⟨pp, hpp⟩ : ∃ pp, posF k l = pp := ⟨_, rfl⟩
  obtain ⟨n0, hn0⟩ : ∃ n0, l.length = n0 := ⟨_, rfl⟩
  obtain ⟨bb, hbb⟩ : ∃ bb, (getF k l).isSome = bb := ⟨_, rfl⟩
  have HN : Hid (l.length = n0) := hn0
  have HPP : Hid (posF k l = pp) := hpp
  rw [hpp, hbb] at hF HPut'
  rw [hpp] at HT hpl hsp
  rw [hn0] at hF HDr hpl hsp hl hcp hsh ⊢
  rw [hbb] at hsp
  clear h hg HPut hpp hn0 hbb
  rcases hsh with ⟨rfl, rfl, rfl⟩ | ⟨g, rfl⟩
  case' inl =>
    obtain rfl : pp = 0 := by omega
    obtain rfl : bb = false := by
      cases bb with
      | false => rfl
      | true => have := hsp rfl; omega
    have HR : Hid (∀ W, Below w.heap.size w W → SrcD W none 0 ((l.drop 0).flatMap flCells)) := fun W _ h => absurd h (by omega)
    have HQ : Hid (putF k x l = l.take 0 ++ (k, x) :: l.drop 0) := HPut'.out
    clear hsp HDr HPut'
    go_enter Try.func53, Try.ntmps53
    go_upto_region 5 with (go_at_call 48; refine hF.mono ?_; rintro r w1 ⟨rfl, hb1⟩; have HB1 : Hid _ := hb1; clear hb1)
  case' inr =>
    cases bb
    case' false =>
      have HQ : Hid (putF k x l = l.take pp ++ (k, x) :: l.drop pp) := HPut'.out
      clear HPut' hsp
      by_cases hc : cp = pp
      case' pos =>
        obtain rfl : n0 = pp := by omega
        obtain rfl : cp = n0 := by omega
        have HR : Hid (∀ W, Below w.heap.size w W → SrcD W (some ⟨g, 0, none⟩) 0 ((l.drop cp).flatMap flCells)) := fun W _ h => absurd h (by omega)
        clear HDr hc
        go_enter Try.func53, Try.ntmps53
        go_upto_region 5 with (go_at_call 48; refine hF.mono ?_; rintro r w1 ⟨rfl, hb1⟩; have HB1 : Hid _ := hb1; clear hb1)
      case' neg =>
        have HR : Hid (∀ W, Below w.heap.size w W → SrcD W (some ⟨g, pp * 2, none⟩) (n0 - pp) ((l.drop pp).flatMap flCells)) := fun W hb => by
          have := HDr.out W pp hb
          rw [subD_some, if_neg hc] at this
          exact this
        clear HDr
        go_enter Try.func53, Try.ntmps53
        go_upto_region 5 with (go_at_call 48; refine hF.mono ?_; rintro r w1 ⟨rfl, hb1⟩; have HB1 : Hid _ := hb1; clear hb1)
    case' true =>
      have hpn := hsp rfl
      have HQ : Hid (putF k x l = l.take pp ++ (k, x) :: l.drop (pp + 1)) := HPut'.out
      have hc0 : ¬ cp = pp := by omega
      clear HPut' hsp
      by_cases hc : cp = pp + 1
      case' pos =>
        obtain rfl : n0 = pp + 1 := by omega
        obtain rfl : cp = pp + 1 := hc
        have HR : Hid (∀ W, Below w.heap.size w W → SrcD W (some ⟨g, 0, none⟩) 0 ((l.drop (pp + 1)).flatMap flCells)) := fun W _ h => absurd h (by omega)
        clear HDr
        go_enter Try.func53, Try.ntmps53
        go_upto_region 5 with (go_at_call 48; refine hF.mono ?_; rintro r w1 ⟨rfl, hb1⟩; have HB1 : Hid _ := hb1; clear hb1)
      case' neg =>
        have HR : Hid (∀ W, Below w.heap.size w W → SrcD W (some ⟨g, (pp + 1) * 2, none⟩) (n0 - (pp + 1)) ((l.drop (pp + 1)).flatMap flCells)) := fun W hb => by
          have := HDr.out W (pp + 1) hb
          rw [subD_some, if_neg hc] at this
          exact this
        clear HDr
        go_enter Try.func53, Try.ntmps53
        go_upto_region 5 with (go_at_call 48; refine hF.mono ?_; rintro r w1 ⟨rfl, hb1⟩; have HB1 : Hid _ := hb1; clear hb1)
  all_goals
    have HO0 : Hid ((w1.alloc (.cells #[] 49)).ownsRow w1.heap.size 49 2 (.slice (some ⟨w1.heap.size, 0, none⟩) 0 0) 0 []) := own_emptyD (Nat.le_refl _)
    have HB2 : Hid (Below w1.heap.size w1 (w1.alloc (.cells #[] 49))) := one_newD _ _
    have t1 : True := trivial
    have t2 : True := trivial
    have t3 : True := trivial
    go_wp2_with (first
      | (at_builtin; have _t := t1; refine wpl_appD rfl Try.underlying26 hi hz0 hz1 hz2 rfl (by decide) (by decide) rfl w1.heap.size _ 0 [] rfl HO0.out rfl _ ?_ (HT.out _ (HB1.out.trans (HB2.out.mono HB1.out.size))) (flc_one _) ?_ HB2.out.size ?_; (rw [flc_len, List.length_take]; have := HN.out; omega); omega; intro v1 w3 own1 gr1 at1; have HO1 : Hid (w3.ownsRow w1.heap.size 49 2 v1 _ _) := own1; have HB3 : Hid (Below w1.heap.size w1 w3) := app_belD HB2.out gr1 HO0.out; clear t1 own1 gr1 at1)
      | (at_builtin; have _t := t2; clear t2; refine wpl_appD rfl Try.underlying26 hi hz0 hz1 hz2 rfl (by decide) (by decide) rfl w1.heap.size _ _ _ rfl (row_new HO1.out (one_newD w3 (.cells #[.string (str k), .string (str x)] 49))) rfl [.string (str k), .string (str x)] rfl (src_oneD (heap_alloc_new w3 (.cells #[.string (str k), .string (str x)] 49))) ?_ ?_ ?_ ?_; (intro u hu; simp at hu; rcases hu with rfl | rfl <;> rfl); omega; (have := HB3.out.size; simp; omega); intro v2 w4 own2 gr2 at2; have HO2 : Hid (w4.ownsRow w1.heap.size 49 2 v2 _ _) := own2; have HB4 : Hid (Below w1.heap.size w1 w4) := app_belD (HB3.out.trans ((one_newD w3 _).mono HB3.out.size)) gr2 HO1.out; clear own2 gr2 at2)
      | (at_builtin; have _t := t3; clear t3; refine wpl_appD rfl Try.underlying26 hi hz0 hz1 hz2 rfl (by decide) (by decide) rfl w1.heap.size _ _ _ rfl HO2.out rfl _ ?_ (HR.out _ (HB1.out.trans (HB4.out.mono HB1.out.size))) (flc_one _) ?_ HB4.out.size ?_; (rw [flc_len, List.length_drop]; have := HN.out; omega); omega; intro v3 w5 own3 gr3 at3; have HO3 : Hid (w5.ownsRow w1.heap.size 49 2 v3 _ _) := own3; have HB5 : Hid (Below w1.heap.size w1 w5) := app_belD HB4.out gr3 HO2.out; clear own3 gr3 at3))
    go_ret
    refine ⟨_, rfl, fl_fin HQ.out (by have := HN.out; omega) (by have := HN.out; omega) HO3.out, HB1.out.trans (HB5.out.mono HB1.out.size)⟩
end
end Go.Proofs.Ythpojidkmmflhaa
