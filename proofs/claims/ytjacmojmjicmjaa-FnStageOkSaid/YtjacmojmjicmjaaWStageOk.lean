/-
  The walk of FnStageOk: it answers true.
-/
import Derived.Test.YtjacmojmjicmjaaStgOk
namespace Go.Proofs.Ytjacmojmjicmjaa
open Go.RowKit Fl

set_option maxRecDepth 8000 in
set_option maxHeartbeats 1000000 in
theorem drawStageOk_any {a : Option Addr} {len cap : Nat} {zs : List Int} {w : World} (h : IsRow .u8 w a len cap zs) :
    Calls Try.prog 29 #[.slice a len cap] w (Got IsStg w) := by
  have hA := At.new w (.cells #[.float .f64 0, .float .f64 0] 43)
  go_enter Try.func29, Try.ntmps29
  go_wp2_with fail
  refine (open_any (h.alloc _)).mono ?_
  rintro e w1 ⟨b, a1, len1, cap1, rfl, R1, hb, B1⟩
  have hs : (w.alloc (.cells #[.float .f64 0, .float .f64 0] 43)).heap.size = w.heap.size + 1 := by simp
  rw [hs] at hb B1
  have A1 : At w1 w.heap.size (.cells #[.float .f64 0, .float .f64 0] 43) := by
    unfold At
    rw [B1.block w.heap.size (by omega)]
    exact hA
  have B2 := (((Below.refl w.heap.size w).alloc (Nat.le_refl _) (.cells #[.float .f64 0, .float .f64 0] 43))).trans (B1.mono (B' := w.heap.size) (by omega))
  clear hA B1 h hs
  go_wp2_with fail
  refine (stage_any R1 (by omega) (by omega) (by omega)).mono ?_
  rintro e w2 ⟨v, k2, ⟨n, g, rfl, hg⟩, rfl, hk2, R2, G2⟩
  have HS := Lib.hid hg
  have A2 := A1.grown G2 (by omega)
  have B3 := Lib.hid (below_drawn B2 (show w.heap.size ≤ b by omega) B2.size G2)
  have z0 : w2.cell? ⟨w.heap.size, 0, none⟩ = some (.float .f64 0) := A2.cell (i := 0) rfl
  have z1 : w2.cell? ⟨w.heap.size, 1, none⟩ = some (.float .f64 0) := A2.cell (i := 1) rfl
  have f0 := A2.fr 0
  have f1 := A2.fr 1
  have al := A2.lt
  have HA := Lib.hid A2
  clear hg R1 R2 G2 B2 A1 A2
  go_wp2_with fail
  refine bodyPost_ret (results_stg rfl _ rfl (HA.out.set2 _ _)) rfl ?_
  exact ⟨_, ⟨n, g, rfl, HS.out⟩, rfl, (B3.out.setCell (p := ⟨w.heap.size, 0, none⟩) (Nat.le_refl _) _).setCell (p := ⟨w.heap.size, 1, none⟩) (Nat.le_refl _) _⟩

theorem st_known : stB 4607182418800017408 4607182418800017408 = true ∧ stB 0 0 = false := ⟨by decide, by decide⟩
theorem st_one {n g : Nat} (h : stB n g = true) : stB 4607182418800017408 g = true := by
  have : (geB 4607182418800017408 4607182418800017408 && leB 4607182418800017408 4696837146684686336) = true := by decide
  unfold stB at *
  rw [Bool.and_eq_true] at h ⊢
  exact ⟨this, h.2⟩

set_option maxRecDepth 8000 in
set_option maxHeartbeats 2000000 in
theorem FnStageOk_walk (a : Option Addr) (len cap : Nat) (zs : List Int) (w : World) (h : IsRow .u8 w a len cap zs) :
    Calls Try.prog 6 #[.slice a len cap] w fun e w' => e = .returned (.bool true) ∧ Below w.heap.size w w' := by
  by_cases hl : (1048576 : Int) < (len : Int)
  · go_enter Try.func6, Try.ntmps6
    go_wp2_with fail
    go_ret
    exact ⟨rfl, Below.refl _ _⟩
  · obtain ⟨k1, k2⟩ := st_known
    have HK := Lib.hid (And.intro k1 k2)
    clear k1 k2
    go_enter Try.func6, Try.ntmps6
    go_wp2_with fail
    refine (drawStageOk_any h).mono ?_
    rintro e w1 ⟨v, ⟨n, g, rfl, _⟩, rfl, B1⟩
    clear h
    obtain ⟨β, hβ⟩ : ∃ β, stB n g = β := ⟨_, rfl⟩
    have HB := Lib.hid hβ
    have H1 := Lib.hid (show β = true → stB 4607182418800017408 g = true from fun e => st_one (hβ.trans e))
    clear hβ
    have B2 := Lib.hid (B1.alloc B1.size (.cells #[.float .f64 n, .float .f64 g] 43))
    have S2 := Lib.hid (At.new w1 (.cells #[.float .f64 n, .float .f64 g] 43))
    clear B1
    go_wp2_with fail
    refine (implStage_any _ _ _).mono ?_
    rw [HB.out]
    rintro z w3 ⟨rfl, C⟩
    have B3 := below_calm B2.out B2.out.size C
    have S3 := S2.out.calm C
    have s0 : w3.cell? ⟨w1.heap.size, 0, none⟩ = some (.float .f64 n) := S3.cell (i := 0) rfl
    have s1 : w3.cell? ⟨w1.heap.size, 1, none⟩ = some (.float .f64 g) := S3.cell (i := 1) rfl
    have sl := S3.lt
    clear C B2 S2
    go_wp2_with fail
    refine (specStage_any _ _ _).mono ?_
    rw [HB.out]
    rintro z w4 ⟨rfl, C⟩
    have B4 := below_calm B3 B3.size C
    have S4 := S3.calm C
    clear s0 s1 sl
    have s0 : w4.cell? ⟨w1.heap.size, 0, none⟩ = some (.float .f64 n) := S4.cell (i := 0) rfl
    have s1 : w4.cell? ⟨w1.heap.size, 1, none⟩ = some (.float .f64 g) := S4.cell (i := 1) rfl
    have sl := S4.lt
    clear C B3 S3
    go_wp2_with fail
    refine (implStage_any _ _ _).mono ?_
    rw [HK.out.1]
    rintro z w5 ⟨rfl, C⟩
    have B5 := below_calm B4 B4.size C
    have S5 := S4.calm C
    clear s0 s1 sl
    have s0 : w5.cell? ⟨w1.heap.size, 0, none⟩ = some (.float .f64 n) := S5.cell (i := 0) rfl
    have s1 : w5.cell? ⟨w1.heap.size, 1, none⟩ = some (.float .f64 g) := S5.cell (i := 1) rfl
    have sl := S5.lt
    clear C B4 S4
    go_wp2_with fail
    refine (implStage_any _ _ _).mono ?_
    rw [HK.out.2]
    rintro z w6 ⟨rfl, C⟩
    have B6 := below_calm B5 B5.size C
    have S6 := S5.calm C
    clear s0 s1 sl
    have s0 : w6.cell? ⟨w1.heap.size, 0, none⟩ = some (.float .f64 n) := S6.cell (i := 0) rfl
    have s1 : w6.cell? ⟨w1.heap.size, 1, none⟩ = some (.float .f64 g) := S6.cell (i := 1) rfl
    have sl := S6.lt
    clear C B5 S5
    cases β
    · go_wp2_with fail
      refine (alive_any _).mono ?_
      rintro e w7 ⟨rfl, rfl⟩
      go_wp2_with fail
      go_ret
      exact ⟨rfl, B6⟩
    · have HO := Lib.hid (H1.out rfl)
      go_wp2_with fail
      refine (implStage_any _ _ _).mono ?_
      rw [HO.out]
      rintro z w7 ⟨rfl, C⟩
      have B7 := below_calm B6 B6.size C
      clear C s0 s1 sl S6
      go_wp2_with fail
      refine (alive_any _).mono ?_
      rintro e w8 ⟨rfl, rfl⟩
      go_wp2_with fail
      go_ret
      exact ⟨rfl, B7⟩

end Go.Proofs.Ytjacmojmjicmjaa
