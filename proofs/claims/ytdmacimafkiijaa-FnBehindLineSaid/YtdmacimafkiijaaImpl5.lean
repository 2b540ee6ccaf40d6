/-
  Contracts of chapter 5's BehindLine in the program.
-/
import Derived.Test.YtdmacimafkiijaaBeh
namespace Go.Proofs.Ytdmacimafkiijaa
open Go.RowKit Fl

set_option maxHeartbeats 1000000 in
theorem implBeh_no {x y : Nat} {k l : Int} (h : (okR k l && (fin .f32 x && fin .f32 y)) = false) (w : World) :
    Calls Try.prog 39 #[.complex .f32 x y, .int .i64 k, .int .i64 l] w fun z w' => z = .returned (numV false 0 0) ∧ Calm w w' := by
  cases ho : okR k l
  · have HO := Lib.hid ho
    clear ho h
    go_enter Try.func39, Try.ntmps39
    go_wp2_with fail
    refine (implRuns_no HO.out _).mono ?_
    rintro z w1 ⟨rfl, C⟩
    rw [numV_false]
    go_wp2_with fail
    go_ret2
    exact ⟨rfl, C⟩
  · rw [ho, Bool.true_and] at h
    obtain ⟨_, l0, l1⟩ := okR_iff.1 ho
    obtain ⟨e, f, r⟩ := runs_at (ti_lt k) l0 l1
    obtain ⟨t, u, tw⟩ := twice_at (ti_lt k) l0 l1 r
    have HO := Lib.hid ho
    have HR := Lib.hid r
    have HT := Lib.hid tw
    have HF := Lib.hid (show ((fin .f32 t && fin .f32 u) && (fin .f32 x && fin .f32 y)) = false by rw [h, Bool.and_false])
    clear ho h r tw
    go_enter Try.func39, Try.ntmps39
    go_wp2_with fail
    refine (implRuns_of HO.out HR.out _).mono ?_
    rintro z w1 ⟨rfl, C⟩
    rw [numV_true]
    have m1 := HT.out.mul
    go_wp2_with fail
    refine (implProduct_no HF.out _).mono ?_
    rintro z w3 ⟨rfl, n2, rfl⟩
    rw [numV_false]
    go_wp2_with fail
    go_ret2
    exact ⟨rfl, grown_drewN C _⟩

set_option maxHeartbeats 1000000 in
theorem implBeh_of {x y e f t u p q : Nat} {k l : Int} {A : Rat} (ho : okR k l = true) (fx : fin .f32 x = true) (fy : fin .f32 y = true) (r : Runs (ti k) l e f) (tw : Twice e f t u) (b : Beh t u x y p q A) (w : World) :
    Calls Try.prog 39 #[.complex .f32 x y, .int .i64 k, .int .i64 l] w fun z w' => z = .returned (numV true p q) ∧ Calm w w' := by
  have HO := Lib.hid ho
  have HR := Lib.hid r
  have HT := Lib.hid tw
  have HB := Lib.hid b
  have HX := Lib.hid (And.intro fx fy)
  clear ho r fx fy tw b
  go_enter Try.func39, Try.ntmps39
  go_wp2_with fail
  refine (implRuns_of HO.out HR.out _).mono ?_
  rintro z w1 ⟨rfl, C⟩
  rw [numV_true]
  have m1 := HT.out.mul
  go_wp2_with fail
  refine (implProduct_run HT.out.ft HT.out.fu HX.out.1 HX.out.2 HB.out.fp HB.out.fq HB.out.mul _).mono ?_
  rintro z w3 ⟨rfl, n2, rfl⟩
  rw [numV_true]
  go_wp2_with fail
  go_ret2
  exact ⟨rfl, grown_drewN C _⟩

end Go.Proofs.Ytdmacimafkiijaa
