/-
  ChainAll of a list whose words are known, in the program and in the model.
-/
import Derived.Test.YteikkbmmbnihaaaLadC
import Derived.Test.YteikkbmmbnihaaaChain3
import Derived.WalkKit
import Derived.Deep.RegionWith
namespace Go.Proofs.Yteikkbmmbnihaaa
open Go.RowKit Fl

/-- The words of a list of matrices, in a block. -/
def Row (w : World) (g : Nat) (ws : List Words) : Prop := ∀ i, (h : i < ws.length) → w.cell? ⟨g, 4 * i, none⟩ = some (.complex .f32 ws[i].a ws[i].b) ∧ w.cell? ⟨g, 4 * i + 1, none⟩ = some (.complex .f32 ws[i].c ws[i].d) ∧
  w.cell? ⟨g, 4 * i + 2, none⟩ = some (.complex .f32 ws[i].e ws[i].f) ∧ w.cell? ⟨g, 4 * i + 3, none⟩ = some (.complex .f32 ws[i].g ws[i].h)

theorem Row.lt {w : World} {g : Nat} {ws : List Words} (H : Row w g ws) {i : Nat} (hi : i < ws.length) : g < w.heap.size := World.block_lt_of_cell? w _ (H i hi).1
theorem Row.of {w w' : World} {g : Nat} {ws : List Words} (H : Row w g ws) (hb : w'.heap[g]? = w.heap[g]?) : Row w' g ws := by
  intro i hi
  obtain ⟨a, b, c, d⟩ := H i hi
  exact ⟨by rw [World.cell?_of_block (w := w) hb]; exact a, by rw [World.cell?_of_block (w := w) hb]; exact b, by rw [World.cell?_of_block (w := w) hb]; exact c, by rw [World.cell?_of_block (w := w) hb]; exact d⟩

/-- What a loop over the list holds: the result's place, the chain so far, the list. -/
structure Hold (w0 w : World) (A B g : Nat) (m : Words) (ws : List Words) : Prop where
  z : Blk w A 0 0 0 0 0 0 0 0
  o : Blk w B m.a m.b m.c m.d m.e m.f m.g m.h
  r : Row w g ws
  l : ws = [] ∨ g < w0.heap.size
  c : Calm w0 w
  a : w0.heap.size ≤ A
  b : w0.heap.size ≤ B
  ab : A ≠ B
theorem Hold.calm {w0 w w' : World} {A B g : Nat} {m : Words} {ws : List Words} (H : Hold w0 w A B g m ws) (C : Calm w w') : Hold w0 w' A B g m ws := by
  refine ⟨H.z.calm C, H.o.calm C, ?_, H.l, calm_trans H.c C, H.a, H.b, H.ab⟩
  rcases H.l with h | h
  · subst h; intro i hi; simp at hi
  · exact H.r.of (C.block g (by have := H.c.size; omega) (fun e => by cases e))
theorem Hold.alloc {w0 w : World} {A B g : Nat} {m : Words} {ws : List Words} (H : Hold w0 w A B g m ws) (o : Obj) : Hold w0 (w.alloc o) A B g m ws := H.calm (World.grownBy_alloc w o none)
theorem Hold.drewN {w0 w : World} {A B g : Nat} {m : Words} {ws : List Words} (H : Hold w0 w A B g m ws) (n : Nat) : Hold w0 (w.drewN n) A B g m ws := H.calm (grown_drewN (grown_refl _ _) n)
theorem Hold.drew {w0 w : World} {A B g : Nat} {m : Words} {ws : List Words} (H : Hold w0 w A B g m ws) : Hold w0 w.drew A B g m ws := H.drewN 1
theorem Hold.lt {w0 w : World} {A B g : Nat} {m : Words} {ws : List Words} (H : Hold w0 w A B g m ws) {i : Nat} (hi : i < ws.length) : g < w.heap.size := H.r.lt hi

theorem row_not4 {w : World} {g : Nat} {ws : List Words} (H : Row w g ws) {B : Nat} (hn : g ≠ B) (v0 v1 v2 v3 : Value) : Row ((((w.setCell ⟨B, 0, none⟩ v0).setCell ⟨B, 1, none⟩ v1).setCell ⟨B, 2, none⟩ v2).setCell ⟨B, 3, none⟩ v3) g ws :=
  H.of (by rw [Below.heap_setCell _ _ _ _ hn, Below.heap_setCell _ _ _ _ hn, Below.heap_setCell _ _ _ _ hn, Below.heap_setCell _ _ _ _ hn])
/-- A store into another block of its own. -/
theorem Hold.not4 {w0 w : World} {A B g : Nat} {m : Words} {ws : List Words} (H : Hold w0 w A B g m ws) {X : Nat} (hA : A ≠ X) (hB : B ≠ X) (hX : w0.heap.size ≤ X) (v0 v1 v2 v3 : Value) :
    Hold w0 ((((w.setCell ⟨X, 0, none⟩ v0).setCell ⟨X, 1, none⟩ v1).setCell ⟨X, 2, none⟩ v2).setCell ⟨X, 3, none⟩ v3) A B g m ws := by
  refine ⟨H.z.not4' hA _ _ _ _, H.o.not4' hB _ _ _ _, ?_, H.l, calm_set4 H.c hX _ _ _ _, H.a, H.b, H.ab⟩
  rcases H.l with h | h
  · subst h; intro i hi; simp at hi
  · exact row_not4 H.r (by omega) _ _ _ _
/-- The next matrix of the chain. -/
theorem Hold.next {w0 w : World} {A B g : Nat} {m : Words} {ws : List Words} (H : Hold w0 w A B g m ws) (p : Words) :
    Hold w0 ((((w.setCell ⟨B, 0, none⟩ (.complex .f32 p.a p.b)).setCell ⟨B, 1, none⟩ (.complex .f32 p.c p.d)).setCell ⟨B, 2, none⟩ (.complex .f32 p.e p.f)).setCell ⟨B, 3, none⟩ (.complex .f32 p.g p.h)) A B g p ws := by
  refine ⟨H.z.not4' H.ab _ _ _ _, H.o.set4' _ _ _ _ _ _ _ _, ?_, H.l, calm_set4 H.c H.b _ _ _ _, H.a, H.b, H.ab⟩
  rcases H.l with h | h
  · subst h; intro i hi; simp at hi
  · exact row_not4 H.r (by have := H.b; omega) _ _ _ _
theorem hold_then {G : Prop} {w0 w1 w2 : World} {A B g : Nat} {m : Words} {ws : List Words} (C : Calm w1 w2) (H : Hold w0 w1 A B g m ws) (k : Hid (Hold w0 w2 A B g m ws) → G) : G := k (Lib.hid (H.calm C))
theorem blk_then' {G : Prop} {w1 w2 : World} {B : Nat} (C : Calm w1 w2) (h : Blk w1 B 0 0 0 0 0 0 0 0)
    (k : w2.cell? ⟨B, 0, none⟩ = some (.complex .f32 0 0) → w2.cell? ⟨B, 1, none⟩ = some (.complex .f32 0 0) → w2.cell? ⟨B, 2, none⟩ = some (.complex .f32 0 0) → w2.cell? ⟨B, 3, none⟩ = some (.complex .f32 0 0) →
      w2.frozen? ⟨B, 0, none⟩ = false → w2.frozen? ⟨B, 1, none⟩ = false → w2.frozen? ⟨B, 2, none⟩ = false → w2.frozen? ⟨B, 3, none⟩ = false → Hid (Blk w2 B 0 0 0 0 0 0 0 0) → G) : G :=
  k (h.calm C).c0 (h.calm C).c1 (h.calm C).c2 (h.calm C).c3 ((h.calm C).fr 0) ((h.calm C).fr 1) ((h.calm C).fr 2) ((h.calm C).fr 3) (Lib.hid (h.calm C))

theorem chain_step {m o : Words} {ws : List Words} {n : Nat} (h : n < ws.length) (F : ChainF m (ws.drop n) o) : ∃ p, CasF m ws[n] p ∧ ChainF p (ws.drop (n + 1)) o := by
  rw [List.drop_eq_getElem_cons h] at F
  cases F with
  | cons a b => exact ⟨_, a, b⟩
theorem chain_end {m o : Words} {ws : List Words} {n : Nat} (h : ¬n < ws.length) (F : ChainF m (ws.drop n) o) : m = o := by
  rw [List.drop_eq_nil_of_le (by omega)] at F
  cases F
  rfl

def Words.okB (m : Words) : Prop := finTwo m.a m.b m.c m.d m.e m.f m.g m.h = true

set_option maxRecDepth 8000 in
set_option maxHeartbeats 4000000 in
theorem specAll_f {g cap : Nat} {ws : List Words} {o : Words} {w : World} (hR : Row w g ws) (hn : ws.length ≤ 3) (hok : ∀ p ∈ ws, Words.okB p) (F : ChainF wireW ws o) :
    Calls Try.prog 62 #[.slice (some ⟨g, 0, none⟩) ws.length cap] w fun z w' => z = .returned (.tuple #[o.v, .bool true]) ∧ Calm w w' := by
  have hl : ws = [] ∨ g < w.heap.size := by
    cases ws with
    | nil => exact .inl rfl
    | cons x xs => exact .inr (hR.lt (i := 0) (by simp))
  have H0 : Hold w ((w.alloc (.cells #[.complex .f32 0 0, .complex .f32 0 0, .complex .f32 0 0, .complex .f32 0 0] 39)).alloc (.cells #[.complex .f32 1065353216 0, .complex .f32 0 0, .complex .f32 0 0, .complex .f32 1065353216 0] 39)) w.heap.size (w.heap.size + 1) g wireW ws := by
    have O := Blk.new (w.alloc (.cells #[.complex .f32 0 0, .complex .f32 0 0, .complex .f32 0 0, .complex .f32 0 0] 39)) 1065353216 0 0 0 0 0 1065353216 0
    have hs : (w.alloc (.cells #[.complex .f32 0 0, .complex .f32 0 0, .complex .f32 0 0, .complex .f32 0 0] 39)).heap.size = w.heap.size + 1 := by simp
    rw [hs] at O
    have C := calm_allocR (calm_new w (.cells #[.complex .f32 0 0, .complex .f32 0 0, .complex .f32 0 0, .complex .f32 0 0] 39)) (.cells #[.complex .f32 1065353216 0, .complex .f32 0 0, .complex .f32 0 0, .complex .f32 1065353216 0] 39)
    refine ⟨(Blk.new w 0 0 0 0 0 0 0 0).alloc _, O, ?_, hl, C, by omega, by omega, by omega⟩
    rcases hl with h | h
    · subst h; intro i hi; simp at hi
    · exact hR.of (C.block g h (fun e => by cases e))
  have HH := Lib.hid H0
  have HF := Lib.hid F
  have HK := Lib.hid hok
  clear F hR hl H0 hok
  go_enter Try.func62, Try.ntmps62
  go_wp2_with fail
  go_loopw [5] (fun k wr => ∃ n m, n ≤ ws.length ∧ k = .int .i64 n ∧ Hold w wr w.heap.size (w.heap.size + 1) g m ws ∧ m.okB ∧ ChainF m (ws.drop n) o)
    (fun k _ => ws.length - (intOf k).toNat)
  case atStart => exact ⟨0, wireW, by omega, rfl, HH.out, rfl, HF.out⟩
  case round =>
    obtain ⟨n, m, hnl, rfl, H, hm, hF⟩ := hrel
    by_cases hlt : n < ws.length
    · obtain ⟨p, hp, hF'⟩ := chain_step hlt hF
      have HC : Hid (∀ w : World, Calls Try.prog 84 #[m.v, ws[n].v] w fun z w' => z = .returned (.tuple #[twoV p.a p.b p.c p.d p.e p.f p.g p.h, .bool true]) ∧ Calm w w') := Lib.hid (specCas_f hm (HK.out ws[n] (List.getElem_mem hlt)) hp)
      have HP := Lib.hid (show p.okB from hp.fin)
      have HN := Lib.hid hF'
      clear hF hm hF' hp
      have q0 := H.lt hlt
      have o0 := H.o.c0
      have o1 := H.o.c1
      have o2 := H.o.c2
      have o3 := H.o.c3
      have ol := H.o.lt
      obtain ⟨h0, h1, h2, h3⟩ := H.r n hlt
      rw [Nat.mul_comm] at h0 h1 h2 h3
      have HH1 := Lib.hid H
      clear H
      go_wp2_with fail
      go_region_with (go_at_call 84; refine Calls.mono (HC.out _) ?_; rintro z v ⟨rfl, C⟩; refine hold_then (w0 := w) (A := w.heap.size) (B := w.heap.size + 1) (g := g) (m := m) (ws := ws) C ?_ (fun H4 => ?_); (focus (with_reducible (repeat (first | exact HH1.out | apply Hold.drewN | apply Hold.drew | apply Hold.alloc)); done)); first | (refine blk_then' (B := wr.heap.size) C ?_ (fun z0 z1 z2 z3 y0 y1 y2 y3 Z4 => ?_); focus (with_reducible (repeat (first | exact Blk.new wr 0 0 0 0 0 0 0 0 | apply Blk.drewN | apply Blk.drew)); done)) | skip)
      all_goals
        have hX1 : w.heap.size ≠ wr.heap.size := by omega
        have hX2 : w.heap.size + 1 ≠ wr.heap.size := by omega
        have hX3 : w.heap.size ≤ wr.heap.size := by omega
        clear o0 o1 o2 o3 h0 h1 h2 h3 q0 HH1 HC
        first
        | (have H5 := Lib.hid (H4.out.not4 hX1 hX2 hX3 (.complex .f32 p.a p.b) (.complex .f32 p.c p.d) (.complex .f32 p.e p.f) (.complex .f32 p.g p.h))
           have X5 := Z4.out.set4' p.a p.b p.c p.d p.e p.f p.g p.h
           clear Z4 z0 z1 z2 z3 y0 y1 y2 y3
           generalize ((((v.setCell ⟨wr.heap.size, 0, none⟩ (.complex .f32 p.a p.b)).setCell ⟨wr.heap.size, 1, none⟩ (.complex .f32 p.c p.d)).setCell ⟨wr.heap.size, 2, none⟩ (.complex .f32 p.e p.f)).setCell ⟨wr.heap.size, 3, none⟩ (.complex .f32 p.g p.h)) = W5 at H5 X5 ⊢)
        | (have H5 := Lib.hid (H4.out.alloc (.cells #[.complex .f32 p.a p.b, .complex .f32 p.c p.d, .complex .f32 p.e p.f, .complex .f32 p.g p.h] 39))
           have X5 := Blk.new v p.a p.b p.c p.d p.e p.f p.g p.h
           generalize (v.alloc (.cells #[.complex .f32 p.a p.b, .complex .f32 p.c p.d, .complex .f32 p.e p.f, .complex .f32 p.g p.h] 39)) = W5 at H5 X5 ⊢)
        have x0 := X5.c0
        have x1 := X5.c1
        have x2 := X5.c2
        have x3 := X5.c3
        have xl := X5.lt
        have o0 := H5.out.o.c0
        have o1 := H5.out.o.c1
        have o2 := H5.out.o.c2
        have o3 := H5.out.o.c3
        have f0 := H5.out.o.fr 0
        have f1 := H5.out.o.fr 1
        have f2 := H5.out.o.fr 2
        have f3 := H5.out.o.fr 3
        have fl := H5.out.o.lt
        clear H4 X5 C hX1 hX2 hX3 ol
        go_wp2_with fail
        exact ⟨⟨n + 1, p, by omega, by go_num, H5.out.next p, HP.out, HN.out⟩, by simp [intOf]; omega⟩
    · have hm' := chain_end hlt hF
      subst hm'
      have o0 := H.o.c0
      have o1 := H.o.c1
      have o2 := H.o.c2
      have o3 := H.o.c3
      have ol := H.o.lt
      have r0 := H.z.c0
      have r1 := H.z.c1
      have r2 := H.z.c2
      have r3 := H.z.c3
      have k0 := H.z.fr 0
      have k1 := H.z.fr 1
      have k2 := H.z.fr 2
      have k3 := H.z.fr 3
      have kl := H.z.lt
      have HH1 := Lib.hid H
      clear H hF
      go_wp2_with fail
      refine bodyPost_ret (results_two_tmp rfl _ rfl (HH1.out.z.set4' _ _ _ _ _ _ _ _)) rfl ?_
      exact ⟨rfl, calm_set4 HH1.out.c (by omega) _ _ _ _⟩

end Go.Proofs.Yteikkbmmbnihaaa
