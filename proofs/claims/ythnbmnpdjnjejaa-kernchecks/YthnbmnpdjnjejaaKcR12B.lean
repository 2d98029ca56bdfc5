/- Region 12 of KernChecks: all of it together, way B. -/
import Derived.Test.YthnbmnpdjnjejaaRegG
import Derived.Test.YthnbmnpdjnjejaaKcSource
namespace Go.Proofs.Ythnbmnpdjnjejaa
open Go.RowKit
set_option maxRecDepth 100000 in
set_option maxHeartbeats 4000000 in
theorem checks_r12B {W0 : World} {A : Act} {s : ByteArray} {ao po : Option Addr} {n cap pn pc bx b off : Nat} {own z0 tb : Bool} {er es cb n0 t0 x : Int} {G : List Vx} {K : Act → World → Prop} {Q' : Exit → Act → World → Prop} (hsz : A.tmps.size = 97) (hA0 : A.eval (.tmp 0) = .string s) (hA2 : A.eval (.tmp 2) = .slice po pn pc) (hA4 : A.eval (.tmp 4) = .pointer (some ⟨bx, 0, none⟩)) (hA7 : A.eval (.tmp 7) = .bool own) (hA10 : A.eval (.tmp 10) = .int .i64 er) (hB : W0.cell? ⟨bx, 0, none⟩ = some (.slice ao n cap)) (hAw : ∀ W, Below W0.heap.size W0 W → Calls Try.prog 11 #[] W fun r w' => r = .returned (.bool true) ∧ Below W.heap.size W w') (hCk : ∀ W, Below W0.heap.size W0 W → Calls Try.prog 14 #[.string s, .agg #[.slice ao n cap], .slice po pn pc] W fun r w' => r = .returned (.int .i64 er) ∧ Below W.heap.size W w') (hKn : ∀ W, Below W0.heap.size W0 W → Calls Try.prog 15 #[.string s] W fun r w' => r = .returned (.bool own) ∧ Below W.heap.size W w') (hC1 : ∀ W, Below W0.heap.size W0 W → Calls Try.prog 16 #[.string s] W fun r w' => r = .returned (.int .i64 cb) ∧ Below W.heap.size W w') (hC2 : ∀ W, Below W0.heap.size W0 W → Calls Try.prog 17 #[.string s] W fun r w' => r = .returned (.int .i64 cb) ∧ Below W.heap.size W w') (hNo : ∀ W, Below W0.heap.size W0 W → Calls Try.prog 18 #[.slice po pn pc] W fun r w' => r = .returned (.int .i64 n0) ∧ Below W.heap.size W w') (hTu : ∀ W, Below W0.heap.size W0 W → Calls Try.prog 19 #[.slice po pn pc] W fun r w' => r = .returned (.int .i64 t0) ∧ Below W.heap.size W w') (hSo : ∀ W, Below W0.heap.size W0 W → Calls Try.prog 20 #[.agg #[.slice ao n cap], .slice po pn pc] W fun r w' => r = .returned (.int .i64 es) ∧ Below W.heap.size W w') (hRf : ∀ W, Below W0.heap.size W0 W → Calls Try.prog 9 #[.agg #[.slice ao n cap]] W fun r w' => ∃ bo c, r = .returned (.slice bo n c) ∧ VxAt w' (fun _ => True) bo G ∧ Below W.heap.size W w') (hRc : ∀ W bo c, Below W0.heap.size W0 W → VxAt W (fun _ => True) bo G → Calls Try.prog 13 #[.string ⟨#[98, 102, 115]⟩, .slice bo n c, .slice po pn pc] W fun r w' => r = .returned (.int .i64 es) ∧ Below W.heap.size W w') (hz0 : (n0 == 0) = z0) (hz1 : ((pn : Int) == 0) = z0) (ht0 : (t0 == 0) = tb) (hp1 : Hid (pn = 1)) (hA2b : A.eval (.tmp 2) = .slice (some ⟨b, off, none⟩) 1 pc) (hcx : W0.cell? ⟨b, off, none⟩ = some (.int .i64 x)) (hx0 : x < 0) (htf : tb = false)
    (HK : ∀ X W, Below W0.heap.size W0 W → X 6 = .bool true → K (puts A X [35, 36, 37, 38, 39, 40, 41, 42, 43, 44, 45, 46, 47, 48, 49, 50, 51, 52, 53, 54, 55, 56, 57, 58, 59, 60, 61, 62, 63, 64, 65, 66, 67, 68, 69, 70, 71, 72, 73, 74, 75, 76, 77, 78, 79, 80, 81, 82, 83, 84, 85, 86, 87, 88, 89, 90, 91, 92, 93, 94, 95, 96, 6]) W) :
    Code.wp Try.prog ((Try.f4.body.bind (regionJ 12)).getD .skip) (Exit.then K Q') A W0 := by
  obtain ⟨ds, hds⟩ : ∃ ds, [35, 36, 37, 38, 39, 40, 41, 42, 43, 44, 45, 46, 47, 48, 49, 50, 51, 52, 53, 54, 55, 56, 57, 58, 59, 60, 61, 62, 63, 64, 65, 66, 67, 68, 69, 70, 71, 72, 73, 74, 75, 76, 77, 78, 79, 80, 81, 82, 83, 84, 85, 86, 87, 88, 89, 90, 91, 92, 93, 94, 95, 96, 6] = ds := ⟨_, rfl⟩
  have hlt : ∀ d ∈ [35, 36, 37, 38, 39, 40, 41, 42, 43, 44, 45, 46, 47, 48, 49, 50, 51, 52, 53, 54, 55, 56, 57, 58, 59, 60, 61, 62, 63, 64, 65, 66, 67, 68, 69, 70, 71, 72, 73, 74, 75, 76, 77, 78, 79, 80, 81, 82, 83, 84, 85, 86, 87, 88, 89, 90, 91, 92, 93, 94, 95, 96, 6], d < A.tmps.size := by rw [hsz]; decide
  have hin : ∀ {X : Nat → Value} {k : Nat}, k ∈ [35, 36, 37, 38, 39, 40, 41, 42, 43, 44, 45, 46, 47, 48, 49, 50, 51, 52, 53, 54, 55, 56, 57, 58, 59, 60, 61, 62, 63, 64, 65, 66, 67, 68, 69, 70, 71, 72, 73, 74, 75, 76, 77, 78, 79, 80, 81, 82, 83, 84, 85, 86, 87, 88, 89, 90, 91, 92, 93, 94, 95, 96, 6] → (puts A X ds).eval (.tmp k) = X k := fun hk => by rw [← hds]; exact eval_in hk (hlt _ hk)
  have hout : ∀ {X : Nat → Value} {k : Nat}, k ∉ [35, 36, 37, 38, 39, 40, 41, 42, 43, 44, 45, 46, 47, 48, 49, 50, 51, 52, 53, 54, 55, 56, 57, 58, 59, 60, 61, 62, 63, 64, 65, 66, 67, 68, 69, 70, 71, 72, 73, 74, 75, 76, 77, 78, 79, 80, 81, 82, 83, 84, 85, 86, 87, 88, 89, 90, 91, 92, 93, 94, 95, 96, 6] → (puts A X ds).eval (.tmp k) = A.eval (.tmp k) := fun hk => by rw [← hds]; exact eval_out hk
  have g0 : ds.getD 0 0 = 35 := by rw [← hds]; rfl
  have g1 : ds.getD 1 0 = 36 := by rw [← hds]; rfl
  have g2 : ds.getD 2 0 = 37 := by rw [← hds]; rfl
  have g3 : ds.getD 3 0 = 38 := by rw [← hds]; rfl
  have g4 : ds.getD 4 0 = 39 := by rw [← hds]; rfl
  have g5 : ds.getD 5 0 = 40 := by rw [← hds]; rfl
  have g6 : ds.getD 6 0 = 41 := by rw [← hds]; rfl
  have g7 : ds.getD 7 0 = 42 := by rw [← hds]; rfl
  have g8 : ds.getD 8 0 = 43 := by rw [← hds]; rfl
  have g9 : ds.getD 9 0 = 44 := by rw [← hds]; rfl
  have g10 : ds.getD 10 0 = 45 := by rw [← hds]; rfl
  have g11 : ds.getD 11 0 = 46 := by rw [← hds]; rfl
  have g12 : ds.getD 12 0 = 47 := by rw [← hds]; rfl
  have g13 : ds.getD 13 0 = 48 := by rw [← hds]; rfl
  have g14 : ds.getD 14 0 = 49 := by rw [← hds]; rfl
  have g15 : ds.getD 15 0 = 50 := by rw [← hds]; rfl
  have g16 : ds.getD 16 0 = 51 := by rw [← hds]; rfl
  have g17 : ds.getD 17 0 = 52 := by rw [← hds]; rfl
  have g18 : ds.getD 18 0 = 53 := by rw [← hds]; rfl
  have g19 : ds.getD 19 0 = 54 := by rw [← hds]; rfl
  have g20 : ds.getD 20 0 = 55 := by rw [← hds]; rfl
  have g21 : ds.getD 21 0 = 56 := by rw [← hds]; rfl
  have g22 : ds.getD 22 0 = 57 := by rw [← hds]; rfl
  have g23 : ds.getD 23 0 = 58 := by rw [← hds]; rfl
  have g24 : ds.getD 24 0 = 59 := by rw [← hds]; rfl
  have g25 : ds.getD 25 0 = 60 := by rw [← hds]; rfl
  have g26 : ds.getD 26 0 = 61 := by rw [← hds]; rfl
  have g27 : ds.getD 27 0 = 62 := by rw [← hds]; rfl
  have g28 : ds.getD 28 0 = 63 := by rw [← hds]; rfl
  have g29 : ds.getD 29 0 = 64 := by rw [← hds]; rfl
  have g30 : ds.getD 30 0 = 65 := by rw [← hds]; rfl
  have g31 : ds.getD 31 0 = 66 := by rw [← hds]; rfl
  have g32 : ds.getD 32 0 = 67 := by rw [← hds]; rfl
  have g33 : ds.getD 33 0 = 68 := by rw [← hds]; rfl
  have g34 : ds.getD 34 0 = 69 := by rw [← hds]; rfl
  have g35 : ds.getD 35 0 = 70 := by rw [← hds]; rfl
  have g36 : ds.getD 36 0 = 71 := by rw [← hds]; rfl
  have g37 : ds.getD 37 0 = 72 := by rw [← hds]; rfl
  have g38 : ds.getD 38 0 = 73 := by rw [← hds]; rfl
  have g39 : ds.getD 39 0 = 74 := by rw [← hds]; rfl
  have g40 : ds.getD 40 0 = 75 := by rw [← hds]; rfl
  have g41 : ds.getD 41 0 = 76 := by rw [← hds]; rfl
  have g42 : ds.getD 42 0 = 77 := by rw [← hds]; rfl
  have g43 : ds.getD 43 0 = 78 := by rw [← hds]; rfl
  have g44 : ds.getD 44 0 = 79 := by rw [← hds]; rfl
  have g45 : ds.getD 45 0 = 80 := by rw [← hds]; rfl
  have g46 : ds.getD 46 0 = 81 := by rw [← hds]; rfl
  have g47 : ds.getD 47 0 = 82 := by rw [← hds]; rfl
  have g48 : ds.getD 48 0 = 83 := by rw [← hds]; rfl
  have g49 : ds.getD 49 0 = 84 := by rw [← hds]; rfl
  have g50 : ds.getD 50 0 = 85 := by rw [← hds]; rfl
  have g51 : ds.getD 51 0 = 86 := by rw [← hds]; rfl
  have g52 : ds.getD 52 0 = 87 := by rw [← hds]; rfl
  have g53 : ds.getD 53 0 = 88 := by rw [← hds]; rfl
  have g54 : ds.getD 54 0 = 89 := by rw [← hds]; rfl
  have g55 : ds.getD 55 0 = 90 := by rw [← hds]; rfl
  have g56 : ds.getD 56 0 = 91 := by rw [← hds]; rfl
  have g57 : ds.getD 57 0 = 92 := by rw [← hds]; rfl
  have g58 : ds.getD 58 0 = 93 := by rw [← hds]; rfl
  have g59 : ds.getD 59 0 = 94 := by rw [← hds]; rfl
  have g60 : ds.getD 60 0 = 95 := by rw [← hds]; rfl
  have g61 : ds.getD 61 0 = 96 := by rw [← hds]; rfl
  have g62 : ds.getD 62 0 = 6 := by rw [← hds]; rfl
  obtain ⟨gb, hgbE⟩ : ∃ gb : Nat → Bool, (fun j => if j = 1 then true else if j = 9 then true else if j = 15 then true else if j = 22 then true else if j = 31 then true else if j = 38 then true else if j = 44 then false else if j = 52 then true else true) = gb := ⟨_, rfl⟩
  have gb1 : gb 1 = true := by rw [← hgbE]; rfl
  have gb9 : gb 9 = true := by rw [← hgbE]; rfl
  have gb15 : gb 15 = true := by rw [← hgbE]; rfl
  have gb22 : gb 22 = true := by rw [← hgbE]; rfl
  have gb31 : gb 31 = true := by rw [← hgbE]; rfl
  have gb38 : gb 38 = true := by rw [← hgbE]; rfl
  have gb44 : gb 44 = false := by rw [← hgbE]; rfl
  have gb52 : gb 52 = true := by rw [← hgbE]; rfl
  obtain ⟨V, hV, e0, e1, e2, e3, e4, e5, e6, e7, e8, e9, e10, e11, e12, e13, e14, e15, e16, e17, e18, e19, e20, e21, e22, e23, e24, e25, e26, e27, e28, e29, e30, e31, e32, e33, e34, e35, e36, e37, e38, e39, e40, e41, e42, e43, e44, e45, e46, e47, e48, e49, e50, e51, e52, e53, e54, e55, e56, e57, e58, e59, e60, e61, e62⟩ : ∃ V : Nat → Value → World → Prop, (∀ i v W W', V i v W → Below W.heap.size W W' → V i v W') ∧ (∀ v W, V 0 v W = (v = .bool true)) ∧ (∀ v W, V 1 v W = (v = .bool true)) ∧ (∀ v W, V 2 v W = (v = .string s)) ∧ (∀ v W, V 3 v W = (v = .agg #[.slice ao n cap])) ∧ (∀ v W, V 4 v W = (v = .slice po pn pc)) ∧ (∀ v W, V 5 v W = (v = .int .i64 er)) ∧ (∀ v W, V 6 v W = (v = .int .i64 er)) ∧ (∀ v W, V 7 v W = (v = .bool true)) ∧ (∀ v W, V 8 v W = (v = .bool true)) ∧ (∀ v W, V 9 v W = (v = .bool true)) ∧ (∀ v W, V 10 v W = (v = .string s)) ∧ (∀ v W, V 11 v W = (v = .bool own)) ∧ (∀ v W, V 12 v W = (v = .bool own)) ∧ (∀ v W, V 13 v W = (v = .bool true)) ∧ (∀ v W, V 14 v W = (v = .bool true)) ∧ (∀ v W, V 15 v W = (v = .bool true)) ∧ (∀ v W, V 16 v W = (v = .string s)) ∧ (∀ v W, V 17 v W = (v = .int .i64 cb)) ∧ (∀ v W, V 18 v W = (v = .string s)) ∧ (∀ v W, V 19 v W = (v = .int .i64 cb)) ∧ (∀ v W, V 20 v W = (v = .bool true)) ∧ (∀ v W, V 21 v W = (v = .bool true)) ∧ (∀ v W, V 22 v W = (v = .bool true)) ∧ (∀ v W, V 23 v W = (v = .slice po pn pc)) ∧ (∀ v W, V 24 v W = (v = .int .i64 n0)) ∧ (∀ v W, V 25 v W = (v = .bool z0)) ∧ (∀ v W, V 26 v W = (v = .slice po pn pc)) ∧ (∀ v W, V 27 v W = (v = .int .i64 (pn : Int))) ∧ (∀ v W, V 28 v W = (v = .bool z0)) ∧ (∀ v W, V 29 v W = (v = .bool true)) ∧ (∀ v W, V 30 v W = (v = .bool true)) ∧ (∀ v W, V 31 v W = (v = .bool true)) ∧ (∀ v W, V 32 v W = (v = .slice po pn pc)) ∧ (∀ v W, V 33 v W = (v = .int .i64 t0)) ∧ (∀ v W, V 34 v W = (v = .bool tb)) ∧ (∀ v W, V 35 v W = (v = .slice po pn pc)) ∧ (∀ v W, V 36 v W = (v = .int .i64 (pn : Int))) ∧ (∀ v W, V 37 v W = (v = .bool true)) ∧ (∀ v W, V 38 v W = (v = .bool true)) ∧ (∀ v W, V 39 v W = (v = .slice (some ⟨b, off, none⟩) 1 pc)) ∧ (∀ v W, V 40 v W = (v = .pointer (some ⟨b, off, none⟩))) ∧ (∀ v W, V 41 v W = (v = .int .i64 x)) ∧ (∀ v W, V 42 v W = (v = .bool false)) ∧ (∀ v W, V 43 v W = (v = .bool false)) ∧ (∀ v W, V 44 v W = (v = .bool false)) ∧ (∀ v W, V 45 v W = (True)) ∧ (∀ v W, V 46 v W = (True)) ∧ (∀ v W, V 47 v W = (True)) ∧ (∀ v W, V 48 v W = (True)) ∧ (∀ v W, V 49 v W = (v = .bool false)) ∧ (∀ v W, V 50 v W = (v = .bool true)) ∧ (∀ v W, V 51 v W = (v = .bool true)) ∧ (∀ v W, V 52 v W = (v = .bool true)) ∧ (∀ v W, V 53 v W = (v = .agg #[.slice ao n cap])) ∧ (∀ v W, V 54 v W = (v = .slice po pn pc)) ∧ (∀ v W, V 55 v W = (v = .int .i64 es)) ∧ (∀ v W, V 56 v W = (v = .agg #[.slice ao n cap])) ∧ (∀ v W, V 57 v W = (∃ bo c, v = .slice bo n c ∧ VxAt W (fun _ => True) bo G)) ∧ (∀ v W, V 58 v W = (v = .slice po pn pc)) ∧ (∀ v W, V 59 v W = (v = .int .i64 es)) ∧ (∀ v W, V 60 v W = (v = .bool true)) ∧ (∀ v W, V 61 v W = (v = .bool true)) ∧ (∀ v W, V 62 v W = (v = .bool true)) := by
    refine ⟨fun i v W => match i with
      | 0 => v = .bool true
      | 1 => v = .bool true
      | 2 => v = .string s
      | 3 => v = .agg #[.slice ao n cap]
      | 4 => v = .slice po pn pc
      | 5 => v = .int .i64 er
      | 6 => v = .int .i64 er
      | 7 => v = .bool true
      | 8 => v = .bool true
      | 9 => v = .bool true
      | 10 => v = .string s
      | 11 => v = .bool own
      | 12 => v = .bool own
      | 13 => v = .bool true
      | 14 => v = .bool true
      | 15 => v = .bool true
      | 16 => v = .string s
      | 17 => v = .int .i64 cb
      | 18 => v = .string s
      | 19 => v = .int .i64 cb
      | 20 => v = .bool true
      | 21 => v = .bool true
      | 22 => v = .bool true
      | 23 => v = .slice po pn pc
      | 24 => v = .int .i64 n0
      | 25 => v = .bool z0
      | 26 => v = .slice po pn pc
      | 27 => v = .int .i64 (pn : Int)
      | 28 => v = .bool z0
      | 29 => v = .bool true
      | 30 => v = .bool true
      | 31 => v = .bool true
      | 32 => v = .slice po pn pc
      | 33 => v = .int .i64 t0
      | 34 => v = .bool tb
      | 35 => v = .slice po pn pc
      | 36 => v = .int .i64 (pn : Int)
      | 37 => v = .bool true
      | 38 => v = .bool true
      | 39 => v = .slice (some ⟨b, off, none⟩) 1 pc
      | 40 => v = .pointer (some ⟨b, off, none⟩)
      | 41 => v = .int .i64 x
      | 42 => v = .bool false
      | 43 => v = .bool false
      | 44 => v = .bool false
      | 45 => True
      | 46 => True
      | 47 => True
      | 48 => True
      | 49 => v = .bool false
      | 50 => v = .bool true
      | 51 => v = .bool true
      | 52 => v = .bool true
      | 53 => v = .agg #[.slice ao n cap]
      | 54 => v = .slice po pn pc
      | 55 => v = .int .i64 es
      | 56 => v = .agg #[.slice ao n cap]
      | 57 => ∃ bo c, v = .slice bo n c ∧ VxAt W (fun _ => True) bo G
      | 58 => v = .slice po pn pc
      | 59 => v = .int .i64 es
      | 60 => v = .bool true
      | 61 => v = .bool true
      | 62 => v = .bool true
      | _ => True, ?_, fun _ _ => rfl, fun _ _ => rfl, fun _ _ => rfl, fun _ _ => rfl, fun _ _ => rfl, fun _ _ => rfl, fun _ _ => rfl, fun _ _ => rfl, fun _ _ => rfl, fun _ _ => rfl, fun _ _ => rfl, fun _ _ => rfl, fun _ _ => rfl, fun _ _ => rfl, fun _ _ => rfl, fun _ _ => rfl, fun _ _ => rfl, fun _ _ => rfl, fun _ _ => rfl, fun _ _ => rfl, fun _ _ => rfl, fun _ _ => rfl, fun _ _ => rfl, fun _ _ => rfl, fun _ _ => rfl, fun _ _ => rfl, fun _ _ => rfl, fun _ _ => rfl, fun _ _ => rfl, fun _ _ => rfl, fun _ _ => rfl, fun _ _ => rfl, fun _ _ => rfl, fun _ _ => rfl, fun _ _ => rfl, fun _ _ => rfl, fun _ _ => rfl, fun _ _ => rfl, fun _ _ => rfl, fun _ _ => rfl, fun _ _ => rfl, fun _ _ => rfl, fun _ _ => rfl, fun _ _ => rfl, fun _ _ => rfl, fun _ _ => rfl, fun _ _ => rfl, fun _ _ => rfl, fun _ _ => rfl, fun _ _ => rfl, fun _ _ => rfl, fun _ _ => rfl, fun _ _ => rfl, fun _ _ => rfl, fun _ _ => rfl, fun _ _ => rfl, fun _ _ => rfl, fun _ _ => rfl, fun _ _ => rfl, fun _ _ => rfl, fun _ _ => rfl, fun _ _ => rfl, fun _ _ => rfl⟩
    intro i v W W' h hb
    match i, h with
    | 0, h => exact h
    | 1, h => exact h
    | 2, h => exact h
    | 3, h => exact h
    | 4, h => exact h
    | 5, h => exact h
    | 6, h => exact h
    | 7, h => exact h
    | 8, h => exact h
    | 9, h => exact h
    | 10, h => exact h
    | 11, h => exact h
    | 12, h => exact h
    | 13, h => exact h
    | 14, h => exact h
    | 15, h => exact h
    | 16, h => exact h
    | 17, h => exact h
    | 18, h => exact h
    | 19, h => exact h
    | 20, h => exact h
    | 21, h => exact h
    | 22, h => exact h
    | 23, h => exact h
    | 24, h => exact h
    | 25, h => exact h
    | 26, h => exact h
    | 27, h => exact h
    | 28, h => exact h
    | 29, h => exact h
    | 30, h => exact h
    | 31, h => exact h
    | 32, h => exact h
    | 33, h => exact h
    | 34, h => exact h
    | 35, h => exact h
    | 36, h => exact h
    | 37, h => exact h
    | 38, h => exact h
    | 39, h => exact h
    | 40, h => exact h
    | 41, h => exact h
    | 42, h => exact h
    | 43, h => exact h
    | 44, h => exact h
    | 45, h => exact h
    | 46, h => exact h
    | 47, h => exact h
    | 48, h => exact h
    | 49, h => exact h
    | 50, h => exact h
    | 51, h => exact h
    | 52, h => exact h
    | 53, h => exact h
    | 54, h => exact h
    | 55, h => exact h
    | 56, h => exact h
    | 57, h => exact (by obtain ⟨bo, c, h1, h2⟩ := h; exact ⟨bo, c, h1, kc_new h2 hb⟩)
    | 58, h => exact h
    | 59, h => exact h
    | 60, h => exact h
    | 61, h => exact h
    | 62, h => exact h
    | _ + 63, _ => trivial
  conv => arg 2; whnf
  refine wp_region_G ds V gb (by kernel_rfl) (by kernel_rfl) (by rw [← hds]; kernel_rfl) (by rw [← hds]; exact hlt) hV ?_ ?_ ?_
  · intro i o j want ho hg v W hv
    have hj : j ∈ [1, 9, 15, 22, 31, 38, 44, 52] := guards_at (by kernel_rfl) ho hg
    simp only [List.mem_cons, List.not_mem_nil, or_false] at hj
    rcases hj with rfl | rfl | rfl | rfl | rfl | rfl | rfl | rfl
    · rw [gb1]; rw [e1] at hv; exact hv
    · rw [gb9]; rw [e9] at hv; exact hv
    · rw [gb15]; rw [e15] at hv; exact hv
    · rw [gb22]; rw [e22] at hv; exact hv
    · rw [gb31]; rw [e31] at hv; exact hv
    · rw [gb38]; rw [e38] at hv; exact hv
    · rw [gb44]; rw [e44] at hv; exact hv
    · rw [gb52]; rw [e52] at hv; exact hv
  · refine ⟨?_, ?_, ?_, ?_, ?_, ?_, ?_, ?_, ?_, ?_, ?_, ?_, ?_, ?_, ?_, ?_, ?_, ?_, ?_, ?_, ?_, ?_, ?_, ?_, ?_, ?_, ?_, ?_, ?_, ?_, ?_, ?_, ?_, ?_, ?_, ?_, ?_, ?_, ?_, ?_, ?_, ?_, ?_, ?_, ?_, ?_, ?_, ?_, ?_, ?_, ?_, ?_, ?_, ?_, ?_, ?_, ?_, ?_, ?_, ?_, ?_, ?_, ?_, trivial⟩
    · refine ⟨fun _ X W hb hd hu => ?_, fun h => absurd (show true = false from h) (by decide)⟩
      have hf : (puts A X ds).eval (.func 11) = .func (.func 11) #[] #[] := rfl
      refine v_call (V := V 0) (f := 11) (vs := #[]) ?_ ?_
      · generalize (puts A X ds).eval = ρ at hf ⊢
        go_simp
      · refine (hAw W hb).mono ?_
        rintro r W' ⟨rfl, hb'⟩
        exact ⟨_, rfl, by rw [e0], hb'⟩
    · refine ⟨fun _ X W hb hd hu => ?_, fun h => absurd (show true = false from h) (by decide)⟩
      have d0 := hd 0 (by kernel_rfl)
      rw [e0, g0] at d0
      have h0 := (hin (X := X) (k := 35) (by decide)).trans d0
      refine v_value (V := V 1) (v := .bool true) ?_ (by rw [e1])
      generalize (puts A X ds).eval = ρ at h0 ⊢
      go_simp
    · refine ⟨fun _ X W hb hd hu => ?_, fun h => (by have h' : (gb 1 == true) = false := h; rw [gb1] at h'; cases h')⟩
      have h0 := hout (X := X) (k := 0) (by decide)
      rw [hA0] at h0
      refine v_value (V := V 2) (v := .string s) ?_ (by rw [e2])
      generalize (puts A X ds).eval = ρ at h0 ⊢
      go_simp
    · refine ⟨fun _ X W hb hd hu => ?_, fun h => (by have h' : (gb 1 == true) = false := h; rw [gb1] at h'; cases h')⟩
      have h0 := hout (X := X) (k := 4) (by decide)
      rw [hA4] at h0
      have c0 := (hb.cell (p := ⟨bx, 0, none⟩) (lt_cell hB)).trans hB
      refine v_value (V := V 3) (v := .agg #[.slice ao n cap]) ?_ (by rw [e3])
      generalize (puts A X ds).eval = ρ at h0 ⊢
      go_simp
    · refine ⟨fun _ X W hb hd hu => ?_, fun h => (by have h' : (gb 1 == true) = false := h; rw [gb1] at h'; cases h')⟩
      have h0 := hout (X := X) (k := 2) (by decide)
      rw [hA2] at h0
      refine v_value (V := V 4) (v := .slice po pn pc) ?_ (by rw [e4])
      generalize (puts A X ds).eval = ρ at h0 ⊢
      go_simp
    · refine ⟨fun _ X W hb hd hu => ?_, fun h => (by have h' : (gb 1 == true) = false := h; rw [gb1] at h'; cases h')⟩
      have d0 := hd 2 (by kernel_rfl)
      rw [e2, g2] at d0
      have h0 := (hin (X := X) (k := 37) (by decide)).trans d0
      have d1 := hd 3 (by kernel_rfl)
      rw [e3, g3] at d1
      have h1 := (hin (X := X) (k := 38) (by decide)).trans d1
      have d2 := hd 4 (by kernel_rfl)
      rw [e4, g4] at d2
      have h2 := (hin (X := X) (k := 39) (by decide)).trans d2
      have hf : (puts A X ds).eval (.func 14) = .func (.func 14) #[] #[] := rfl
      refine v_call (V := V 5) (f := 14) (vs := #[.string s, .agg #[.slice ao n cap], .slice po pn pc]) ?_ ?_
      · generalize (puts A X ds).eval = ρ at h0 h1 h2 hf ⊢
        go_simp
      · refine (hCk W hb).mono ?_
        rintro r W' ⟨rfl, hb'⟩
        exact ⟨_, rfl, by rw [e5], hb'⟩
    · refine ⟨fun _ X W hb hd hu => ?_, fun h => (by have h' : (gb 1 == true) = false := h; rw [gb1] at h'; cases h')⟩
      have h0 := hout (X := X) (k := 10) (by decide)
      rw [hA10] at h0
      refine v_value (V := V 6) (v := .int .i64 er) ?_ (by rw [e6])
      generalize (puts A X ds).eval = ρ at h0 ⊢
      go_simp
    · refine ⟨fun _ X W hb hd hu => ?_, fun h => (by have h' : (gb 1 == true) = false := h; rw [gb1] at h'; cases h')⟩
      have d0 := hd 5 (by kernel_rfl)
      rw [e5, g5] at d0
      have h0 := (hin (X := X) (k := 40) (by decide)).trans d0
      have d1 := hd 6 (by kernel_rfl)
      rw [e6, g6] at d1
      have h1 := (hin (X := X) (k := 41) (by decide)).trans d1
      refine v_value (V := V 7) (v := .bool true) ?_ (by rw [e7])
      generalize (puts A X ds).eval = ρ at h0 h1 ⊢
      go_simp
    · refine ⟨fun _ X W hb hd hu => ?_, fun h => absurd (show true = false from h) (by decide)⟩
      have d0 := hd 1 (by kernel_rfl)
      rw [e1, g1] at d0
      have h0 := (hin (X := X) (k := 36) (by decide)).trans d0
      have d1 := hd 7 (by kernel_rfl)
      rw [e7, g7] at d1
      have h1 := (hin (X := X) (k := 42) (by decide)).trans d1
      have h2 : (puts A X ds).eval (.const (.bool false)) = .bool false := rfl
      refine v_value (V := V 8) (v := .bool true) ?_ (by rw [e8])
      generalize (puts A X ds).eval = ρ at h0 h1 h2 ⊢
      go_simp
    · refine ⟨fun _ X W hb hd hu => ?_, fun h => absurd (show true = false from h) (by decide)⟩
      have d0 := hd 8 (by kernel_rfl)
      rw [e8, g8] at d0
      have h0 := (hin (X := X) (k := 43) (by decide)).trans d0
      refine v_value (V := V 9) (v := .bool true) ?_ (by rw [e9])
      generalize (puts A X ds).eval = ρ at h0 ⊢
      go_simp
    · refine ⟨fun _ X W hb hd hu => ?_, fun h => (by have h' : (gb 9 == true) = false := h; rw [gb9] at h'; cases h')⟩
      have h0 := hout (X := X) (k := 0) (by decide)
      rw [hA0] at h0
      refine v_value (V := V 10) (v := .string s) ?_ (by rw [e10])
      generalize (puts A X ds).eval = ρ at h0 ⊢
      go_simp
    · refine ⟨fun _ X W hb hd hu => ?_, fun h => (by have h' : (gb 9 == true) = false := h; rw [gb9] at h'; cases h')⟩
      have d0 := hd 10 (by kernel_rfl)
      rw [e10, g10] at d0
      have h0 := (hin (X := X) (k := 45) (by decide)).trans d0
      have hf : (puts A X ds).eval (.func 15) = .func (.func 15) #[] #[] := rfl
      refine v_call (V := V 11) (f := 15) (vs := #[.string s]) ?_ ?_
      · generalize (puts A X ds).eval = ρ at h0 hf ⊢
        go_simp
      · refine (hKn W hb).mono ?_
        rintro r W' ⟨rfl, hb'⟩
        exact ⟨_, rfl, by rw [e11], hb'⟩
    · refine ⟨fun _ X W hb hd hu => ?_, fun h => (by have h' : (gb 9 == true) = false := h; rw [gb9] at h'; cases h')⟩
      have h0 := hout (X := X) (k := 7) (by decide)
      rw [hA7] at h0
      refine v_value (V := V 12) (v := .bool own) ?_ (by rw [e12])
      generalize (puts A X ds).eval = ρ at h0 ⊢
      go_simp
    · refine ⟨fun _ X W hb hd hu => ?_, fun h => (by have h' : (gb 9 == true) = false := h; rw [gb9] at h'; cases h')⟩
      have d0 := hd 11 (by kernel_rfl)
      rw [e11, g11] at d0
      have h0 := (hin (X := X) (k := 46) (by decide)).trans d0
      have d1 := hd 12 (by kernel_rfl)
      rw [e12, g12] at d1
      have h1 := (hin (X := X) (k := 47) (by decide)).trans d1
      refine v_value (V := V 13) (v := .bool true) ?_ (by rw [e13])
      generalize (puts A X ds).eval = ρ at h0 h1 ⊢
      go_simp
    · refine ⟨fun _ X W hb hd hu => ?_, fun h => absurd (show true = false from h) (by decide)⟩
      have d0 := hd 9 (by kernel_rfl)
      rw [e9, g9] at d0
      have h0 := (hin (X := X) (k := 44) (by decide)).trans d0
      have d1 := hd 13 (by kernel_rfl)
      rw [e13, g13] at d1
      have h1 := (hin (X := X) (k := 48) (by decide)).trans d1
      have h2 : (puts A X ds).eval (.const (.bool false)) = .bool false := rfl
      refine v_value (V := V 14) (v := .bool true) ?_ (by rw [e14])
      generalize (puts A X ds).eval = ρ at h0 h1 h2 ⊢
      go_simp
    · refine ⟨fun _ X W hb hd hu => ?_, fun h => absurd (show true = false from h) (by decide)⟩
      have d0 := hd 14 (by kernel_rfl)
      rw [e14, g14] at d0
      have h0 := (hin (X := X) (k := 49) (by decide)).trans d0
      refine v_value (V := V 15) (v := .bool true) ?_ (by rw [e15])
      generalize (puts A X ds).eval = ρ at h0 ⊢
      go_simp
    · refine ⟨fun _ X W hb hd hu => ?_, fun h => (by have h' : (gb 15 == true) = false := h; rw [gb15] at h'; cases h')⟩
      have h0 := hout (X := X) (k := 0) (by decide)
      rw [hA0] at h0
      refine v_value (V := V 16) (v := .string s) ?_ (by rw [e16])
      generalize (puts A X ds).eval = ρ at h0 ⊢
      go_simp
    · refine ⟨fun _ X W hb hd hu => ?_, fun h => (by have h' : (gb 15 == true) = false := h; rw [gb15] at h'; cases h')⟩
      have d0 := hd 16 (by kernel_rfl)
      rw [e16, g16] at d0
      have h0 := (hin (X := X) (k := 51) (by decide)).trans d0
      have hf : (puts A X ds).eval (.func 16) = .func (.func 16) #[] #[] := rfl
      refine v_call (V := V 17) (f := 16) (vs := #[.string s]) ?_ ?_
      · generalize (puts A X ds).eval = ρ at h0 hf ⊢
        go_simp
      · refine (hC1 W hb).mono ?_
        rintro r W' ⟨rfl, hb'⟩
        exact ⟨_, rfl, by rw [e17], hb'⟩
    · refine ⟨fun _ X W hb hd hu => ?_, fun h => (by have h' : (gb 15 == true) = false := h; rw [gb15] at h'; cases h')⟩
      have h0 := hout (X := X) (k := 0) (by decide)
      rw [hA0] at h0
      refine v_value (V := V 18) (v := .string s) ?_ (by rw [e18])
      generalize (puts A X ds).eval = ρ at h0 ⊢
      go_simp
    · refine ⟨fun _ X W hb hd hu => ?_, fun h => (by have h' : (gb 15 == true) = false := h; rw [gb15] at h'; cases h')⟩
      have d0 := hd 18 (by kernel_rfl)
      rw [e18, g18] at d0
      have h0 := (hin (X := X) (k := 53) (by decide)).trans d0
      have hf : (puts A X ds).eval (.func 17) = .func (.func 17) #[] #[] := rfl
      refine v_call (V := V 19) (f := 17) (vs := #[.string s]) ?_ ?_
      · generalize (puts A X ds).eval = ρ at h0 hf ⊢
        go_simp
      · refine (hC2 W hb).mono ?_
        rintro r W' ⟨rfl, hb'⟩
        exact ⟨_, rfl, by rw [e19], hb'⟩
    · refine ⟨fun _ X W hb hd hu => ?_, fun h => (by have h' : (gb 15 == true) = false := h; rw [gb15] at h'; cases h')⟩
      have d0 := hd 17 (by kernel_rfl)
      rw [e17, g17] at d0
      have h0 := (hin (X := X) (k := 52) (by decide)).trans d0
      have d1 := hd 19 (by kernel_rfl)
      rw [e19, g19] at d1
      have h1 := (hin (X := X) (k := 54) (by decide)).trans d1
      refine v_value (V := V 20) (v := .bool true) ?_ (by rw [e20])
      generalize (puts A X ds).eval = ρ at h0 h1 ⊢
      go_simp
    · refine ⟨fun _ X W hb hd hu => ?_, fun h => absurd (show true = false from h) (by decide)⟩
      have d0 := hd 15 (by kernel_rfl)
      rw [e15, g15] at d0
      have h0 := (hin (X := X) (k := 50) (by decide)).trans d0
      have d1 := hd 20 (by kernel_rfl)
      rw [e20, g20] at d1
      have h1 := (hin (X := X) (k := 55) (by decide)).trans d1
      have h2 : (puts A X ds).eval (.const (.bool false)) = .bool false := rfl
      refine v_value (V := V 21) (v := .bool true) ?_ (by rw [e21])
      generalize (puts A X ds).eval = ρ at h0 h1 h2 ⊢
      go_simp
    · refine ⟨fun _ X W hb hd hu => ?_, fun h => absurd (show true = false from h) (by decide)⟩
      have d0 := hd 21 (by kernel_rfl)
      rw [e21, g21] at d0
      have h0 := (hin (X := X) (k := 56) (by decide)).trans d0
      refine v_value (V := V 22) (v := .bool true) ?_ (by rw [e22])
      generalize (puts A X ds).eval = ρ at h0 ⊢
      go_simp
    · refine ⟨fun _ X W hb hd hu => ?_, fun h => (by have h' : (gb 22 == true) = false := h; rw [gb22] at h'; cases h')⟩
      have h0 := hout (X := X) (k := 2) (by decide)
      rw [hA2] at h0
      refine v_value (V := V 23) (v := .slice po pn pc) ?_ (by rw [e23])
      generalize (puts A X ds).eval = ρ at h0 ⊢
      go_simp
    · refine ⟨fun _ X W hb hd hu => ?_, fun h => (by have h' : (gb 22 == true) = false := h; rw [gb22] at h'; cases h')⟩
      have d0 := hd 23 (by kernel_rfl)
      rw [e23, g23] at d0
      have h0 := (hin (X := X) (k := 58) (by decide)).trans d0
      have hf : (puts A X ds).eval (.func 18) = .func (.func 18) #[] #[] := rfl
      refine v_call (V := V 24) (f := 18) (vs := #[.slice po pn pc]) ?_ ?_
      · generalize (puts A X ds).eval = ρ at h0 hf ⊢
        go_simp
      · refine (hNo W hb).mono ?_
        rintro r W' ⟨rfl, hb'⟩
        exact ⟨_, rfl, by rw [e24], hb'⟩
    · refine ⟨fun _ X W hb hd hu => ?_, fun h => (by have h' : (gb 22 == true) = false := h; rw [gb22] at h'; cases h')⟩
      have d0 := hd 24 (by kernel_rfl)
      rw [e24, g24] at d0
      have h0 := (hin (X := X) (k := 59) (by decide)).trans d0
      have h1 : (puts A X ds).eval (.const (.int .i64 0)) = .int .i64 0 := rfl
      have hz := hz0
      refine v_value (V := V 25) (v := .bool z0) ?_ (by rw [e25])
      generalize (puts A X ds).eval = ρ at h0 h1 ⊢
      go_simp
    · refine ⟨fun _ X W hb hd hu => ?_, fun h => (by have h' : (gb 22 == true) = false := h; rw [gb22] at h'; cases h')⟩
      have h0 := hout (X := X) (k := 2) (by decide)
      rw [hA2] at h0
      refine v_value (V := V 26) (v := .slice po pn pc) ?_ (by rw [e26])
      generalize (puts A X ds).eval = ρ at h0 ⊢
      go_simp
    · refine ⟨fun _ X W hb hd hu => ?_, fun h => (by have h' : (gb 22 == true) = false := h; rw [gb22] at h'; cases h')⟩
      have d0 := hd 26 (by kernel_rfl)
      rw [e26, g26] at d0
      have h0 := (hin (X := X) (k := 61) (by decide)).trans d0
      refine v_value (V := V 27) (v := .int .i64 (pn : Int)) ?_ (by rw [e27])
      generalize (puts A X ds).eval = ρ at h0 ⊢
      go_simp
    · refine ⟨fun _ X W hb hd hu => ?_, fun h => (by have h' : (gb 22 == true) = false := h; rw [gb22] at h'; cases h')⟩
      have d0 := hd 27 (by kernel_rfl)
      rw [e27, g27] at d0
      have h0 := (hin (X := X) (k := 62) (by decide)).trans d0
      have h1 : (puts A X ds).eval (.const (.int .i64 0)) = .int .i64 0 := rfl
      have hz := hz1
      refine v_value (V := V 28) (v := .bool z0) ?_ (by rw [e28])
      generalize (puts A X ds).eval = ρ at h0 h1 ⊢
      go_simp
    · refine ⟨fun _ X W hb hd hu => ?_, fun h => (by have h' : (gb 22 == true) = false := h; rw [gb22] at h'; cases h')⟩
      have d0 := hd 25 (by kernel_rfl)
      rw [e25, g25] at d0
      have h0 := (hin (X := X) (k := 60) (by decide)).trans d0
      have d1 := hd 28 (by kernel_rfl)
      rw [e28, g28] at d1
      have h1 := (hin (X := X) (k := 63) (by decide)).trans d1
      refine v_value (V := V 29) (v := .bool true) ?_ (by rw [e29])
      generalize (puts A X ds).eval = ρ at h0 h1 ⊢
      go_simp
    · refine ⟨fun _ X W hb hd hu => ?_, fun h => absurd (show true = false from h) (by decide)⟩
      have d0 := hd 22 (by kernel_rfl)
      rw [e22, g22] at d0
      have h0 := (hin (X := X) (k := 57) (by decide)).trans d0
      have d1 := hd 29 (by kernel_rfl)
      rw [e29, g29] at d1
      have h1 := (hin (X := X) (k := 64) (by decide)).trans d1
      have h2 : (puts A X ds).eval (.const (.bool false)) = .bool false := rfl
      refine v_value (V := V 30) (v := .bool true) ?_ (by rw [e30])
      generalize (puts A X ds).eval = ρ at h0 h1 h2 ⊢
      go_simp
    · refine ⟨fun _ X W hb hd hu => ?_, fun h => absurd (show true = false from h) (by decide)⟩
      have d0 := hd 30 (by kernel_rfl)
      rw [e30, g30] at d0
      have h0 := (hin (X := X) (k := 65) (by decide)).trans d0
      refine v_value (V := V 31) (v := .bool true) ?_ (by rw [e31])
      generalize (puts A X ds).eval = ρ at h0 ⊢
      go_simp
    · refine ⟨fun _ X W hb hd hu => ?_, fun h => (by have h' : (gb 31 == true) = false := h; rw [gb31] at h'; cases h')⟩
      have h0 := hout (X := X) (k := 2) (by decide)
      rw [hA2] at h0
      refine v_value (V := V 32) (v := .slice po pn pc) ?_ (by rw [e32])
      generalize (puts A X ds).eval = ρ at h0 ⊢
      go_simp
    · refine ⟨fun _ X W hb hd hu => ?_, fun h => (by have h' : (gb 31 == true) = false := h; rw [gb31] at h'; cases h')⟩
      have d0 := hd 32 (by kernel_rfl)
      rw [e32, g32] at d0
      have h0 := (hin (X := X) (k := 67) (by decide)).trans d0
      have hf : (puts A X ds).eval (.func 19) = .func (.func 19) #[] #[] := rfl
      refine v_call (V := V 33) (f := 19) (vs := #[.slice po pn pc]) ?_ ?_
      · generalize (puts A X ds).eval = ρ at h0 hf ⊢
        go_simp
      · refine (hTu W hb).mono ?_
        rintro r W' ⟨rfl, hb'⟩
        exact ⟨_, rfl, by rw [e33], hb'⟩
    · refine ⟨fun _ X W hb hd hu => ?_, fun h => (by have h' : (gb 31 == true) = false := h; rw [gb31] at h'; cases h')⟩
      have d0 := hd 33 (by kernel_rfl)
      rw [e33, g33] at d0
      have h0 := (hin (X := X) (k := 68) (by decide)).trans d0
      have h1 : (puts A X ds).eval (.const (.int .i64 0)) = .int .i64 0 := rfl
      have hz := ht0
      refine v_value (V := V 34) (v := .bool tb) ?_ (by rw [e34])
      generalize (puts A X ds).eval = ρ at h0 h1 ⊢
      go_simp
    · refine ⟨fun _ X W hb hd hu => ?_, fun h => (by have h' : (gb 31 == true) = false := h; rw [gb31] at h'; cases h')⟩
      have h0 := hout (X := X) (k := 2) (by decide)
      rw [hA2] at h0
      refine v_value (V := V 35) (v := .slice po pn pc) ?_ (by rw [e35])
      generalize (puts A X ds).eval = ρ at h0 ⊢
      go_simp
    · refine ⟨fun _ X W hb hd hu => ?_, fun h => (by have h' : (gb 31 == true) = false := h; rw [gb31] at h'; cases h')⟩
      have d0 := hd 35 (by kernel_rfl)
      rw [e35, g35] at d0
      have h0 := (hin (X := X) (k := 70) (by decide)).trans d0
      refine v_value (V := V 36) (v := .int .i64 (pn : Int)) ?_ (by rw [e36])
      generalize (puts A X ds).eval = ρ at h0 ⊢
      go_simp
    · refine ⟨fun _ X W hb hd hu => ?_, fun h => (by have h' : (gb 31 == true) = false := h; rw [gb31] at h'; cases h')⟩
      have d0 := hd 36 (by kernel_rfl)
      rw [e36, g36] at d0
      have h0 := (hin (X := X) (k := 71) (by decide)).trans d0
      have h1 : (puts A X ds).eval (.const (.int .i64 1)) = .int .i64 1 := rfl
      have hz := hp1.out
      refine v_value (V := V 37) (v := .bool true) ?_ (by rw [e37])
      generalize (puts A X ds).eval = ρ at h0 h1 ⊢
      go_simp
    · refine ⟨fun _ X W hb hd hu => ?_, fun h => (by have h' : (gb 31 == true) = false := h; rw [gb31] at h'; cases h')⟩
      have d0 := hd 37 (by kernel_rfl)
      rw [e37, g37] at d0
      have h0 := (hin (X := X) (k := 72) (by decide)).trans d0
      refine v_value (V := V 38) (v := .bool true) ?_ (by rw [e38])
      generalize (puts A X ds).eval = ρ at h0 ⊢
      go_simp
    · refine ⟨fun _ X W hb hd hu => ?_, fun h => (by have h' : (gb 38 == true) = false := h; rw [gb38] at h'; cases h')⟩
      have h0 := hout (X := X) (k := 2) (by decide)
      rw [hA2b] at h0
      refine v_value (V := V 39) (v := .slice (some ⟨b, off, none⟩) 1 pc) ?_ (by rw [e39])
      generalize (puts A X ds).eval = ρ at h0 ⊢
      go_simp
    · refine ⟨fun _ X W hb hd hu => ?_, fun h => (by have h' : (gb 38 == true) = false := h; rw [gb38] at h'; cases h')⟩
      have d0 := hd 39 (by kernel_rfl)
      rw [e39, g39] at d0
      have h0 := (hin (X := X) (k := 74) (by decide)).trans d0
      have h1 : (puts A X ds).eval (.const (.int .i64 0)) = .int .i64 0 := rfl
      refine v_value (V := V 40) (v := .pointer (some ⟨b, off, none⟩)) ?_ (by rw [e40])
      generalize (puts A X ds).eval = ρ at h0 h1 ⊢
      go_simp
    · refine ⟨fun _ X W hb hd hu => ?_, fun h => (by have h' : (gb 38 == true) = false := h; rw [gb38] at h'; cases h')⟩
      have d0 := hd 40 (by kernel_rfl)
      rw [e40, g40] at d0
      have h0 := (hin (X := X) (k := 75) (by decide)).trans d0
      have c0 := (hb.cell (p := ⟨b, off, none⟩) (lt_cell hcx)).trans hcx
      refine v_value (V := V 41) (v := .int .i64 x) ?_ (by rw [e41])
      generalize (puts A X ds).eval = ρ at h0 ⊢
      go_simp
    · refine ⟨fun _ X W hb hd hu => ?_, fun h => (by have h' : (gb 38 == true) = false := h; rw [gb38] at h'; cases h')⟩
      have d0 := hd 41 (by kernel_rfl)
      rw [e41, g41] at d0
      have h0 := (hin (X := X) (k := 76) (by decide)).trans d0
      have h1 : (puts A X ds).eval (.const (.int .i64 0)) = .int .i64 0 := rfl
      have hz := hx0
      refine v_value (V := V 42) (v := .bool false) ?_ (by rw [e42])
      generalize (puts A X ds).eval = ρ at h0 h1 ⊢
      go_simp
    · refine ⟨fun _ X W hb hd hu => ?_, fun h => (by have h' : (gb 31 == true) = false := h; rw [gb31] at h'; cases h')⟩
      have d0 := hd 38 (by kernel_rfl)
      rw [e38, g38] at d0
      have h0 := (hin (X := X) (k := 73) (by decide)).trans d0
      have d1 := hd 42 (by kernel_rfl)
      rw [e42, g42] at d1
      have h1 := (hin (X := X) (k := 77) (by decide)).trans d1
      have h2 : (puts A X ds).eval (.const (.bool false)) = .bool false := rfl
      refine v_value (V := V 43) (v := .bool false) ?_ (by rw [e43])
      generalize (puts A X ds).eval = ρ at h0 h1 h2 ⊢
      go_simp
    · refine ⟨fun _ X W hb hd hu => ?_, fun h => (by have h' : (gb 31 == true) = false := h; rw [gb31] at h'; cases h')⟩
      have d0 := hd 43 (by kernel_rfl)
      rw [e43, g43] at d0
      have h0 := (hin (X := X) (k := 78) (by decide)).trans d0
      refine v_value (V := V 44) (v := .bool false) ?_ (by rw [e44])
      generalize (puts A X ds).eval = ρ at h0 ⊢
      go_simp
    · refine ⟨fun h => (by have h' : (gb 44 == true) = true := h; rw [gb44] at h'; cases h'), fun _ W => (by rw [e45]; trivial)⟩
    · refine ⟨fun h => (by have h' : (gb 44 == true) = true := h; rw [gb44] at h'; cases h'), fun _ W => (by rw [e46]; trivial)⟩
    · refine ⟨fun h => (by have h' : (gb 44 == true) = true := h; rw [gb44] at h'; cases h'), fun _ W => (by rw [e47]; trivial)⟩
    · refine ⟨fun h => (by have h' : (gb 44 == true) = true := h; rw [gb44] at h'; cases h'), fun _ W => (by rw [e48]; trivial)⟩
    · refine ⟨fun _ X W hb hd hu => ?_, fun h => (by have h' : (gb 31 == true) = false := h; rw [gb31] at h'; cases h')⟩
      have d0 := hd 44 (by kernel_rfl)
      rw [e44, g44] at d0
      have h0 := (hin (X := X) (k := 79) (by decide)).trans d0
      have h1 : (puts A X ds).eval (.const (.bool false)) = .bool false := rfl
      refine v_value (V := V 49) (v := .bool false) ?_ (by rw [e49])
      generalize (puts A X ds).eval = ρ at h0 h1 ⊢
      go_simp
    · refine ⟨fun _ X W hb hd hu => ?_, fun h => (by have h' : (gb 31 == true) = false := h; rw [gb31] at h'; cases h')⟩
      have d0 := hd 34 (by kernel_rfl)
      rw [e34, g34] at d0
      have h0 := (hin (X := X) (k := 69) (by decide)).trans d0
      have d1 := hd 49 (by kernel_rfl)
      rw [e49, g49] at d1
      have h1 := (hin (X := X) (k := 84) (by decide)).trans d1
      have hz := htf
      refine v_value (V := V 50) (v := .bool true) ?_ (by rw [e50])
      generalize (puts A X ds).eval = ρ at h0 h1 ⊢
      go_simp
    · refine ⟨fun _ X W hb hd hu => ?_, fun h => absurd (show true = false from h) (by decide)⟩
      have d0 := hd 31 (by kernel_rfl)
      rw [e31, g31] at d0
      have h0 := (hin (X := X) (k := 66) (by decide)).trans d0
      have d1 := hd 50 (by kernel_rfl)
      rw [e50, g50] at d1
      have h1 := (hin (X := X) (k := 85) (by decide)).trans d1
      have h2 : (puts A X ds).eval (.const (.bool false)) = .bool false := rfl
      refine v_value (V := V 51) (v := .bool true) ?_ (by rw [e51])
      generalize (puts A X ds).eval = ρ at h0 h1 h2 ⊢
      go_simp
    · refine ⟨fun _ X W hb hd hu => ?_, fun h => absurd (show true = false from h) (by decide)⟩
      have d0 := hd 51 (by kernel_rfl)
      rw [e51, g51] at d0
      have h0 := (hin (X := X) (k := 86) (by decide)).trans d0
      refine v_value (V := V 52) (v := .bool true) ?_ (by rw [e52])
      generalize (puts A X ds).eval = ρ at h0 ⊢
      go_simp
    · refine ⟨fun _ X W hb hd hu => ?_, fun h => (by have h' : (gb 52 == true) = false := h; rw [gb52] at h'; cases h')⟩
      have h0 := hout (X := X) (k := 4) (by decide)
      rw [hA4] at h0
      have c0 := (hb.cell (p := ⟨bx, 0, none⟩) (lt_cell hB)).trans hB
      refine v_value (V := V 53) (v := .agg #[.slice ao n cap]) ?_ (by rw [e53])
      generalize (puts A X ds).eval = ρ at h0 ⊢
      go_simp
    · refine ⟨fun _ X W hb hd hu => ?_, fun h => (by have h' : (gb 52 == true) = false := h; rw [gb52] at h'; cases h')⟩
      have h0 := hout (X := X) (k := 2) (by decide)
      rw [hA2] at h0
      refine v_value (V := V 54) (v := .slice po pn pc) ?_ (by rw [e54])
      generalize (puts A X ds).eval = ρ at h0 ⊢
      go_simp
    · refine ⟨fun _ X W hb hd hu => ?_, fun h => (by have h' : (gb 52 == true) = false := h; rw [gb52] at h'; cases h')⟩
      have d0 := hd 53 (by kernel_rfl)
      rw [e53, g53] at d0
      have h0 := (hin (X := X) (k := 88) (by decide)).trans d0
      have d1 := hd 54 (by kernel_rfl)
      rw [e54, g54] at d1
      have h1 := (hin (X := X) (k := 89) (by decide)).trans d1
      have hf : (puts A X ds).eval (.func 20) = .func (.func 20) #[] #[] := rfl
      refine v_call (V := V 55) (f := 20) (vs := #[.agg #[.slice ao n cap], .slice po pn pc]) ?_ ?_
      · generalize (puts A X ds).eval = ρ at h0 h1 hf ⊢
        go_simp
      · refine (hSo W hb).mono ?_
        rintro r W' ⟨rfl, hb'⟩
        exact ⟨_, rfl, by rw [e55], hb'⟩
    · refine ⟨fun _ X W hb hd hu => ?_, fun h => (by have h' : (gb 52 == true) = false := h; rw [gb52] at h'; cases h')⟩
      have h0 := hout (X := X) (k := 4) (by decide)
      rw [hA4] at h0
      have c0 := (hb.cell (p := ⟨bx, 0, none⟩) (lt_cell hB)).trans hB
      refine v_value (V := V 56) (v := .agg #[.slice ao n cap]) ?_ (by rw [e56])
      generalize (puts A X ds).eval = ρ at h0 ⊢
      go_simp
    · refine ⟨fun _ X W hb hd hu => ?_, fun h => (by have h' : (gb 52 == true) = false := h; rw [gb52] at h'; cases h')⟩
      have d0 := hd 56 (by kernel_rfl)
      rw [e56, g56] at d0
      have h0 := (hin (X := X) (k := 91) (by decide)).trans d0
      have hf : (puts A X ds).eval (.func 9) = .func (.func 9) #[] #[] := rfl
      refine v_call (V := V 57) (f := 9) (vs := #[.agg #[.slice ao n cap]]) ?_ ?_
      · generalize (puts A X ds).eval = ρ at h0 hf ⊢
        go_simp
      · refine (hRf W hb).mono ?_
        rintro r W' ⟨bo, c, rfl, hVx, hb'⟩
        exact ⟨_, rfl, by rw [e57]; exact ⟨bo, c, rfl, hVx⟩, hb'⟩
    · refine ⟨fun _ X W hb hd hu => ?_, fun h => (by have h' : (gb 52 == true) = false := h; rw [gb52] at h'; cases h')⟩
      have h0 := hout (X := X) (k := 2) (by decide)
      rw [hA2] at h0
      refine v_value (V := V 58) (v := .slice po pn pc) ?_ (by rw [e58])
      generalize (puts A X ds).eval = ρ at h0 ⊢
      go_simp
    · refine ⟨fun _ X W hb hd hu => ?_, fun h => (by have h' : (gb 52 == true) = false := h; rw [gb52] at h'; cases h')⟩
      have d0 := hd 57 (by kernel_rfl)
      rw [e57, g57] at d0
      obtain ⟨bo, c, d0, hVx⟩ := d0
      have h0 := (hin (X := X) (k := 92) (by decide)).trans d0
      have d1 := hd 58 (by kernel_rfl)
      rw [e58, g58] at d1
      have h1 := (hin (X := X) (k := 93) (by decide)).trans d1
      have h2 : (puts A X ds).eval (.const (.string ⟨#[98, 102, 115]⟩)) = .string ⟨#[98, 102, 115]⟩ := rfl
      have hf : (puts A X ds).eval (.func 13) = .func (.func 13) #[] #[] := rfl
      refine v_call (V := V 59) (f := 13) (vs := #[.string ⟨#[98, 102, 115]⟩, .slice bo n c, .slice po pn pc]) ?_ ?_
      · generalize (puts A X ds).eval = ρ at h0 h1 h2 hf ⊢
        go_simp
      · refine (hRc W bo c hb hVx).mono ?_
        rintro r W' ⟨rfl, hb'⟩
        exact ⟨_, rfl, by rw [e59], hb'⟩
    · refine ⟨fun _ X W hb hd hu => ?_, fun h => (by have h' : (gb 52 == true) = false := h; rw [gb52] at h'; cases h')⟩
      have d0 := hd 55 (by kernel_rfl)
      rw [e55, g55] at d0
      have h0 := (hin (X := X) (k := 90) (by decide)).trans d0
      have d1 := hd 59 (by kernel_rfl)
      rw [e59, g59] at d1
      have h1 := (hin (X := X) (k := 94) (by decide)).trans d1
      refine v_value (V := V 60) (v := .bool true) ?_ (by rw [e60])
      generalize (puts A X ds).eval = ρ at h0 h1 ⊢
      go_simp
    · refine ⟨fun _ X W hb hd hu => ?_, fun h => absurd (show true = false from h) (by decide)⟩
      have d0 := hd 52 (by kernel_rfl)
      rw [e52, g52] at d0
      have h0 := (hin (X := X) (k := 87) (by decide)).trans d0
      have d1 := hd 60 (by kernel_rfl)
      rw [e60, g60] at d1
      have h1 := (hin (X := X) (k := 95) (by decide)).trans d1
      have h2 : (puts A X ds).eval (.const (.bool false)) = .bool false := rfl
      refine v_value (V := V 61) (v := .bool true) ?_ (by rw [e61])
      generalize (puts A X ds).eval = ρ at h0 h1 h2 ⊢
      go_simp
    · refine ⟨fun _ X W hb hd hu => ?_, fun h => absurd (show true = false from h) (by decide)⟩
      have d0 := hd 61 (by kernel_rfl)
      rw [e61, g61] at d0
      have h0 := (hin (X := X) (k := 96) (by decide)).trans d0
      refine v_value (V := V 62) (v := .bool true) ?_ (by rw [e62])
      generalize (puts A X ds).eval = ρ at h0 ⊢
      go_simp
  · intro X W hb hall
    have r62 := hall 62 (by decide)
    rw [e62, g62] at r62
    have := HK X W hb r62
    rw [hds] at this
    exact this
end Go.Proofs.Ythnbmnpdjnjejaa
