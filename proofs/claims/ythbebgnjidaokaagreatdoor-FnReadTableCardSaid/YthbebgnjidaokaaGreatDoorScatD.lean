/-
  What the draws of scatterings come to: any matrix.
-/
import Derived.Test.YthbebgnjidaokaaGreatDoorTotQ
import Derived.Test.YthbebgnjidaokaaGreatDoorDrawT
import Derived.Test.YthbebgnjidaokaaGreatDoorC3
namespace Go.Proofs.YthbebgnjidaokaaGreatDoor
open Go.RowKit Fl

/-- A number, and whether it is told. -/
def ToldD (x : Ending) : Prop := ∃ (e f : Nat) (β : Bool), x = .returned (.tuple #[.complex .f32 e f, .bool β])
/-- A matrix, and whether it is told. -/
def ToldT (x : Ending) : Prop := ∃ (a b c d e f g h : Nat) (β : Bool), x = .returned (.tuple #[twoV a b c d e f g h, .bool β])

theorem sum_total (op : BinOp) (hop : op = .add ∨ op = .sub) (a b c d : Nat) (w : World) : ∃ e f n : Nat, ∀ (P : Program) (t : TypeId), (binOp op t (.complex .f32 a b) (.complex .f32 c d)).run P w = .ok (.complex .f32 e f) (w.drewN n) := by
  refine ⟨fres op .f32 a c w, fres op .f32 b d (w.drewN (fask op .f32 a c)), fask op .f32 a c + fask op .f32 b d, fun P t => ?_⟩
  have h : ∀ x y w, (Op.floatArith op .f32 x y).run P w = .ok (.float .f32 (fres op .f32 x y w)) (w.drewN (fask op .f32 x y)) := by
    intro x y w
    have := run_float_any P t .f32 x y w op (by rcases hop with rfl | rfl <;> simp)
    rcases hop with rfl | rfl <;> simpa [binOp] using this
  rcases hop with rfl | rfl <;> simp [binOp, Op.complexOp, Op.Complex.arith, h]

/-- A sum, difference, product or quotient of two complex64 numbers in a walk, whatever it gives. -/
theorem wpList_c_any {P : Program} (w : World) {ops : Array Oper} {rest : List Oper} {o : Oper} {a : Act} {Q : Exit → Act → World → Prop} (hg : o.guard = none) (op : BinOp) (t s : TypeId) (x y : Operand) (hop : o.op = Op.binOp op t x y s) (hm : (op = .mul ∨ op = .quo) ∨ (op = .add ∨ op = .sub))
    (A B C D : Nat) (hx : a.eval x = .complex .f32 A B) (hy : a.eval y = .complex .f32 C D) (hK : ∀ (e f n : Nat), wpList P ops Q rest (a.put o.dst (.complex .f32 e f)) (w.drewN n)) : wpList P ops Q (o :: rest) a w := by
  refine wpList_plain hg fun K hK' => ?_
  obtain ⟨e, f, n, h⟩ : ∃ e f n : Nat, ∀ (P : Program) (t : TypeId), (binOp op t (.complex .f32 A B) (.complex .f32 C D)).run P w = .ok (.complex .f32 e f) (w.drewN n) := by
    rcases hm with (rfl | rfl) | h
    · exact mul_total A B C D w
    · exact quo_total A B C D w
    · exact sum_total op h A B C D w
  have h' := h P t
  have hq : eqGuard op t x y (.complex .f32 A B) (.complex .f32 C D) = pure () := by
    rcases hm with (rfl | rfl) | (rfl | rfl) <;> rfl
  unfold Oper.wp
  simp only [execOp, hop, hx, hy, hq, pure_bind, Sem.run_bind, h', Result.andThen_ok]
  exact hK' _ _ (hK e f n)

theorem l2All_told3 (x0 y0 x1 y1 x2 y2 : Nat) (w : World) : Calls Tryz.prog 65 #[.slice (some ⟨w.heap.size, 0, none⟩) 3 3] (w.alloc (.cells #[.complex .f32 x0 y0, .complex .f32 x1 y1, .complex .f32 x2 y2] 30)) fun z w' => (∃ β : Bool, z = .returned (.bool β)) ∧ Calm (w.alloc (.cells #[.complex .f32 x0 y0, .complex .f32 x1 y1, .complex .f32 x2 y2] 30)) w' := by
  refine (l2All_any _ [(x0, y0), (x1, y1), (x2, y2)] _ _ (by simp) ?_).mono ?_
  · intro i hi
    refine built_cell _ (by simp) ?_
    have h : i = 0 ∨ i = 1 ∨ i = 2 := by simp at hi; omega
    rcases h with rfl | rfl | rfl <;> rfl
  rintro z w1 ⟨rfl, n, rfl⟩
  exact ⟨⟨_, rfl⟩, grown_drewN (grown_refl _ _) n⟩

theorem l2All_told5 (x0 y0 x1 y1 x2 y2 x3 y3 x4 y4 : Nat) (w : World) : Calls Tryz.prog 65 #[.slice (some ⟨w.heap.size, 0, none⟩) 5 5] (w.alloc (.cells #[.complex .f32 x0 y0, .complex .f32 x1 y1, .complex .f32 x2 y2, .complex .f32 x3 y3, .complex .f32 x4 y4] 30)) fun z w' => (∃ β : Bool, z = .returned (.bool β)) ∧ Calm (w.alloc (.cells #[.complex .f32 x0 y0, .complex .f32 x1 y1, .complex .f32 x2 y2, .complex .f32 x3 y3, .complex .f32 x4 y4] 30)) w' := by
  refine (l2All_any _ [(x0, y0), (x1, y1), (x2, y2), (x3, y3), (x4, y4)] _ _ (by simp) ?_).mono ?_
  · intro i hi
    refine built_cell _ (by simp) ?_
    have h : i = 0 ∨ i = 1 ∨ i = 2 ∨ i = 3 ∨ i = 4 := by simp at hi; omega
    rcases h with rfl | rfl | rfl | rfl | rfl <;> rfl
  rintro z w1 ⟨rfl, n, rfl⟩
  exact ⟨⟨_, rfl⟩, grown_drewN (grown_refl _ _) n⟩

/-- The same, and the world behind is any that keeps what is asked. -/
theorem wpList_c_keep {P : Program} (S : World → Prop) (w : World) {ops : Array Oper} {rest : List Oper} {o : Oper} {a : Act} {Q : Exit → Act → World → Prop} (hg : o.guard = none) (op : BinOp) (t s : TypeId) (x y : Operand) (hop : o.op = Op.binOp op t x y s) (hm : (op = .mul ∨ op = .quo) ∨ (op = .add ∨ op = .sub))
    (A B C D : Nat) (hx : a.eval x = .complex .f32 A B) (hy : a.eval y = .complex .f32 C D) (hS : S w) (hd : ∀ v n, S v → S (v.drewN n)) (hK : ∀ (e f : Nat) (v : World), S v → wpList P ops Q rest (a.put o.dst (.complex .f32 e f)) v) : wpList P ops Q (o :: rest) a w :=
  wpList_c_any w hg op t s x y hop hm A B C D hx hy fun e f n => hK e f _ (hd w n hS)

set_option maxRecDepth 8000 in
set_option maxHeartbeats 2000000 in
theorem specDet_any (a b c d e f g h : Nat) (w : World) :
    Calls Tryz.prog 71 #[twoV a b c d e f g h] w fun z w' => ToldD z ∧ Calm w w' := by
  obtain ⟨β, hβ⟩ : ∃ β, finTwo a b c d e f g h = β := ⟨_, rfl⟩
  have HB := Lib.hid hβ
  clear hβ
  go_enter Tryz.func71, Tryz.ntmps71
  go_wp2_with (refine wpList_c_any _ rfl _ _ _ _ _ rfl (by first | exact .inl (.inl rfl) | exact .inl (.inr rfl) | exact .inr (.inl rfl) | exact .inr (.inr rfl)) _ _ _ _ rfl rfl ?_; intro e' f' n')
  refine (specTwoOk_any _ _ _ _ _ _ _ _ _).mono ?_
  rw [HB.out]
  rintro z w1 ⟨rfl, C⟩
  have K := calm_trans (grown_drewN (calm_new w _) _) C
  clear C
  cases β
  · go_wp2_with fail
    go_ret2
    exact ⟨⟨_, _, _, rfl⟩, K⟩
  · go_wp2_with fail
    refine (l2All_told3 _ _ _ _ _ _ _).mono ?_
    rintro z w2 ⟨⟨γ, rfl⟩, C⟩
    have K2 := calm_trans (calm_allocR K _) C
    clear C K
    cases γ
    all_goals
      go_wp2_with fail
      go_ret2
      exact ⟨⟨_, _, _, rfl⟩, K2⟩

theorem specTwoOk_told (a b c d e f g h : Nat) (w : World) : Calls Tryz.prog 52 #[twoV a b c d e f g h] w fun z w' => (∃ β : Bool, z = .returned (.bool β)) ∧ Calm w w' :=
  (specTwoOk_any a b c d e f g h w).mono fun _ _ H => ⟨⟨_, H.1⟩, H.2⟩

/-- A matrix, and the result's place. -/
structure Duo (w0 w : World) (S a b c d e f g h : Nat) : Prop where
  m : Blk w S a b c d e f g h
  z : Blk w (S + 1) 0 0 0 0 0 0 0 0
  c : Calm w0 w
theorem Duo.calm {w0 w w' : World} {S a b c d e f g h : Nat} (H : Duo w0 w S a b c d e f g h) (C : Calm w w') : Duo w0 w' S a b c d e f g h := ⟨H.m.calm C, H.z.calm C, calm_trans H.c C⟩
theorem Duo.alloc {w0 w : World} {S a b c d e f g h : Nat} (H : Duo w0 w S a b c d e f g h) (o : Obj) : Duo w0 (w.alloc o) S a b c d e f g h := H.calm (World.grownBy_alloc w o none)
theorem Duo.drewN {w0 w : World} {S a b c d e f g h : Nat} (H : Duo w0 w S a b c d e f g h) (n : Nat) : Duo w0 (w.drewN n) S a b c d e f g h := H.calm (grown_drewN (grown_refl _ _) n)
theorem Duo.new (w : World) (a b c d e f g h : Nat) : Duo w ((w.alloc (.cells #[.complex .f32 a b, .complex .f32 c d, .complex .f32 e f, .complex .f32 g h] 32)).alloc (.cells #[.complex .f32 0 0, .complex .f32 0 0, .complex .f32 0 0, .complex .f32 0 0] 32)) w.heap.size a b c d e f g h := by
  have Q := Blk.new (w.alloc (.cells #[.complex .f32 a b, .complex .f32 c d, .complex .f32 e f, .complex .f32 g h] 32)) 0 0 0 0 0 0 0 0
  rw [show (w.alloc (.cells #[.complex .f32 a b, .complex .f32 c d, .complex .f32 e f, .complex .f32 g h] 32)).heap.size = w.heap.size + 1 by simp] at Q
  exact ⟨(Blk.new w a b c d e f g h).alloc _, Q, calm_allocR (calm_new w _) _⟩

theorem specTwoOk_duo {w0 v : World} {S a b c d e f g h : Nat} (H : Duo w0 v S a b c d e f g h) (e1 f1 e2 f2 e3 f3 e4 f4 : Nat) :
    Calls Tryz.prog 52 #[twoV e1 f1 e2 f2 e3 f3 e4 f4] (v.alloc (.cells #[.complex .f32 e1 f1, .complex .f32 e2 f2, .complex .f32 e3 f3, .complex .f32 e4 f4] 32)) fun z w' => (∃ β : Bool, z = .returned (.bool β)) ∧ Hid (Blk w' v.heap.size e1 f1 e2 f2 e3 f3 e4 f4) ∧ Hid (Duo w0 w' S a b c d e f g h) :=
  (specTwoOk_any e1 f1 e2 f2 e3 f3 e4 f4 _).mono fun _ _ K => ⟨⟨_, K.1⟩, Lib.hid ((Blk.new v e1 f1 e2 f2 e3 f3 e4 f4).calm K.2), Lib.hid ((H.alloc (.cells #[.complex .f32 e1 f1, .complex .f32 e2 f2, .complex .f32 e3 f3, .complex .f32 e4 f4] 32)).calm K.2)⟩

set_option maxRecDepth 8000 in
set_option maxHeartbeats 4000000 in
theorem specScat_any (a b c d e f g h x y : Nat) (w : World) :
    Calls Tryz.prog 60 #[twoV a b c d e f g h, .complex .f32 x y] w fun z w' => ToldT z ∧ Calm w w' := by
  obtain ⟨β, hβ⟩ : ∃ β, (fin .f32 x && fin .f32 y) = β := ⟨_, rfl⟩
  have HB := Lib.hid hβ
  have HD0 := Lib.hid (Duo.new w a b c d e f g h)
  clear hβ
  go_enter Tryz.func60, Tryz.ntmps60
  go_wp2_with fail
  refine (specDet_any _ _ _ _ _ _ _ _ _).mono ?_
  rintro z w1 ⟨⟨p, q, δ, rfl⟩, C⟩
  have HD1 := Lib.hid (HD0.out.calm C)
  have mm0 := HD1.out.m.c0
  have mm1 := HD1.out.m.c1
  have mm2 := HD1.out.m.c2
  have mm3 := HD1.out.m.c3
  have zz0 := HD1.out.z.c0
  have zz1 := HD1.out.z.c1
  have zz2 := HD1.out.z.c2
  have zz3 := HD1.out.z.c3
  have ff0 := HD1.out.z.fr 0
  have ff1 := HD1.out.z.fr 1
  have ff2 := HD1.out.z.fr 2
  have ff3 := HD1.out.z.fr 3
  have ml := HD1.out.m.lt
  have zl := HD1.out.z.lt
  clear C HD0
  cases δ
  · go_wp2_with fail
    (refine bodyPost_ret (results_two_tmp rfl _ rfl (HD1.out.z.s0 _ _ |>.s1 _ _ |>.s2 _ _ |>.s3 _ _)) rfl ?_; exact ⟨⟨_, _, _, _, _, _, _, _, _, rfl⟩, calm_set4 HD1.out.c (by omega) _ _ _ _⟩)
  · go_wp2_with fail
    refine (specFinite_any _ _ _).mono ?_
    rw [HB.out]
    rintro z w2 ⟨rfl, n, hw2⟩
    have HD2 := Lib.hid (show Duo w w2 w.heap.size a b c d e f g h by rw [hw2]; exact HD1.out.drewN n)
    clear mm0 mm1 mm2 mm3 zz0 zz1 zz2 zz3 ff0 ff1 ff2 ff3 ml zl
    have mm0 := HD2.out.m.c0
    have mm1 := HD2.out.m.c1
    have mm2 := HD2.out.m.c2
    have mm3 := HD2.out.m.c3
    have zz0 := HD2.out.z.c0
    have zz1 := HD2.out.z.c1
    have zz2 := HD2.out.z.c2
    have zz3 := HD2.out.z.c3
    have ff0 := HD2.out.z.fr 0
    have ff1 := HD2.out.z.fr 1
    have ff2 := HD2.out.z.fr 2
    have ff3 := HD2.out.z.fr 3
    have ml := HD2.out.m.lt
    have zl := HD2.out.z.lt
    clear hw2 HD1
    cases β
    · go_wp2_with fail
      (refine bodyPost_ret (results_two_tmp rfl _ rfl (HD2.out.z.s0 _ _ |>.s1 _ _ |>.s2 _ _ |>.s3 _ _)) rfl ?_; exact ⟨⟨_, _, _, _, _, _, _, _, _, rfl⟩, calm_set4 HD2.out.c (by omega) _ _ _ _⟩)
    · cases hz : (FloatKind.f32.format.order x 0 == some .eq && FloatKind.f32.format.order y 0 == some .eq)
      rotate_left
      · go_wp2_with fail
        (refine bodyPost_ret (results_two_tmp rfl _ rfl (HD2.out.z.s0 _ _ |>.s1 _ _ |>.s2 _ _ |>.s3 _ _)) rfl ?_; exact ⟨⟨_, _, _, _, _, _, _, _, _, rfl⟩, calm_set4 HD2.out.c (by omega) _ _ _ _⟩)
      · go_wp2_with (refine wpList_c_any _ rfl _ _ _ _ _ rfl (by first | exact .inl (.inl rfl) | exact .inl (.inr rfl) | exact .inr (.inl rfl) | exact .inr (.inr rfl)) _ _ _ _ rfl rfl ?_; intro e' f' n')
        refine (l2All_told5 _ _ _ _ _ _ _ _ _ _ _).mono ?_
        rintro z w3 ⟨⟨γ, rfl⟩, C⟩
        have HD3 := Lib.hid (((HD2.out.drewN _).alloc _).calm C)
        clear mm0 mm1 mm2 mm3 zz0 zz1 zz2 zz3 ff0 ff1 ff2 ff3 ml zl
        have mm0 := HD3.out.m.c0
        have mm1 := HD3.out.m.c1
        have mm2 := HD3.out.m.c2
        have mm3 := HD3.out.m.c3
        have zz0 := HD3.out.z.c0
        have zz1 := HD3.out.z.c1
        have zz2 := HD3.out.z.c2
        have zz3 := HD3.out.z.c3
        have ff0 := HD3.out.z.fr 0
        have ff1 := HD3.out.z.fr 1
        have ff2 := HD3.out.z.fr 2
        have ff3 := HD3.out.z.fr 3
        have ml := HD3.out.m.lt
        have zl := HD3.out.z.lt
        clear C HD2
        cases γ
        · go_wp2_with fail
          (refine bodyPost_ret (results_two_tmp rfl _ rfl (HD3.out.z.s0 _ _ |>.s1 _ _ |>.s2 _ _ |>.s3 _ _)) rfl ?_; exact ⟨⟨_, _, _, _, _, _, _, _, _, rfl⟩, calm_set4 HD3.out.c (by omega) _ _ _ _⟩)
        · go_wp2_with (refine wpList_c_any _ rfl _ _ _ _ _ rfl (by first | exact .inl (.inl rfl) | exact .inl (.inr rfl) | exact .inr (.inl rfl) | exact .inr (.inr rfl)) _ _ _ _ rfl rfl ?_; intro e' f' n')
          all_goals first
            | (refine bodyPost_ret (results_two_tmp rfl _ rfl (HD3.out.z.s0 _ _ |>.s1 _ _ |>.s2 _ _ |>.s3 _ _)) rfl ?_; exact ⟨⟨_, _, _, _, _, _, _, _, _, rfl⟩, calm_set4 HD3.out.c (by omega) _ _ _ _⟩)
            | (refine (l2All_told5 _ _ _ _ _ _ _ _ _ _ _).mono ?_
               rintro z w4 ⟨⟨γ, rfl⟩, C⟩
               have HD4 := Lib.hid (((HD3.out.drewN _).alloc _).calm C)
               clear mm0 mm1 mm2 mm3 zz0 zz1 zz2 zz3 ff0 ff1 ff2 ff3 ml zl
               have mm0 := HD4.out.m.c0
               have mm1 := HD4.out.m.c1
               have mm2 := HD4.out.m.c2
               have mm3 := HD4.out.m.c3
               have zz0 := HD4.out.z.c0
               have zz1 := HD4.out.z.c1
               have zz2 := HD4.out.z.c2
               have zz3 := HD4.out.z.c3
               have ff0 := HD4.out.z.fr 0
               have ff1 := HD4.out.z.fr 1
               have ff2 := HD4.out.z.fr 2
               have ff3 := HD4.out.z.fr 3
               have ml := HD4.out.m.lt
               have zl := HD4.out.z.lt
               clear C HD3
               cases γ
               · go_wp2_with fail
                 (refine bodyPost_ret (results_two_tmp rfl _ rfl (HD4.out.z.s0 _ _ |>.s1 _ _ |>.s2 _ _ |>.s3 _ _)) rfl ?_; exact ⟨⟨_, _, _, _, _, _, _, _, _, rfl⟩, calm_set4 HD4.out.c (by omega) _ _ _ _⟩)
               · go_wp2_with (refine wpList_c_keep (fun v => Duo w v w.heap.size a b c d e f g h) _ rfl _ _ _ _ _ rfl (by first | exact .inl (.inl rfl) | exact .inl (.inr rfl) | exact .inr (.inl rfl) | exact .inr (.inr rfl)) _ _ _ _ rfl rfl (by first | exact HDq | exact HD4.out) (fun v n H => H.drewN n) ?_; intro e' f' v' HDq)
                 clear mm0 mm1 mm2 mm3 zz0 zz1 zz2 zz3 ff0 ff1 ff2 ff3 ml zl HD4
                 refine (specTwoOk_duo HDq _ _ _ _ _ _ _ _).mono ?_
                 rintro z w5 ⟨⟨τ, rfl⟩, HO5, HD5⟩
                 clear HDq
                 have oo0 := HO5.out.c0
                 have oo1 := HO5.out.c1
                 have oo2 := HO5.out.c2
                 have oo3 := HO5.out.c3
                 have ol := HO5.out.lt
                 have zz0 := HD5.out.z.c0
                 have zz1 := HD5.out.z.c1
                 have zz2 := HD5.out.z.c2
                 have zz3 := HD5.out.z.c3
                 have ff0 := HD5.out.z.fr 0
                 have ff1 := HD5.out.z.fr 1
                 have ff2 := HD5.out.z.fr 2
                 have ff3 := HD5.out.z.fr 3
                 have zl := HD5.out.z.lt
                 clear HO5
                 cases τ
                 all_goals
                   go_wp2_with fail
                   (refine bodyPost_ret (results_two_tmp rfl _ rfl (HD5.out.z.s0 _ _ |>.s1 _ _ |>.s2 _ _ |>.s3 _ _)) rfl ?_; exact ⟨⟨_, _, _, _, _, _, _, _, _, rfl⟩, calm_set4 HD5.out.c (by omega) _ _ _ _⟩))

end Go.Proofs.YthbebgnjidaokaaGreatDoor
