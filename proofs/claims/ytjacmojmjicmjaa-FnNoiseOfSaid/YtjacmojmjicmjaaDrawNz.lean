/-
  The draw of a list of stages.
-/
import Derived.Test.YtjacmojmjicmjaaNoise
import Derived.Test.YtjacmojmjicmjaaDrawT
import Derived.WalkKit
import Derived.Laws.OwnMore
namespace Go.Proofs.Ytjacmojmjicmjaa
open Go.RowKit Fl

theorem Try.infoStage : (Try.prog.info? 43).map (fun i => (i.zero, i.size, i.bytes)) = some (some (.agg #[.float .f64 0, .float .f64 0]), 2, 16) := by kernel_rfl

def cells2 (ws : List (Nat × Nat)) : List Value := ws.flatMap fun p => [.float .f64 p.1, .float .f64 p.2]
theorem cells2_add (ws : List (Nat × Nat)) (p : Nat × Nat) : cells2 (ws ++ [p]) = cells2 ws ++ [.float .f64 p.1, .float .f64 p.2] := by unfold cells2; simp
theorem cells2_at (ws : List (Nat × Nat)) : ∀ i, (h : i < ws.length) → (cells2 ws)[2 * i]? = some (.float .f64 ws[i].1) ∧ (cells2 ws)[2 * i + 1]? = some (.float .f64 ws[i].2) := by
  induction ws with
  | nil => intro i h; simp at h
  | cons x xs ih =>
    intro i h
    have e : cells2 (x :: xs) = [.float .f64 x.1, .float .f64 x.2] ++ cells2 xs := by unfold cells2; simp
    cases i with
    | zero => exact ⟨rfl, rfl⟩
    | succ i =>
      obtain ⟨a, b⟩ := ih i (by simpa using h)
      have sh : ∀ j, (cells2 (x :: xs))[2 * (i + 1) + j]? = (cells2 xs)[2 * i + j]? := by
        intro j
        rw [e, show 2 * (i + 1) + j = (2 * i + j) + 2 by omega, List.getElem?_append_right (by simp)]
        simp
      refine ⟨?_, ?_⟩
      · have := sh 0; simp only [Nat.add_zero] at this; rw [this]; exact a
      · rw [sh 1]; exact b

/-- A list of stages as it is drawn: each one is a drawn one, or all numbers are 0. -/
def NzDrawn (ws : List (Nat × Nat)) : Prop := ws.length ≤ 7 ∧ ((ws.length ≤ 6 ∧ ∀ p ∈ ws, StgOk p.1 p.2) ∨ ws = List.replicate 7 (0, 0))

theorem Rd.keptN {w w' : World} {b g : Nat} {a : Option Addr} {len cap k : Nat} (h : Rd w b a len cap k) (G : w.grownBy w' (some g)) (hg : b < g) : Rd w' b a len cap k := by
  have hlt := h.lt
  obtain ⟨T, hb⟩ := h.blk
  refine ⟨⟨T, by rw [G.block b hlt (fun e => by injection e with e; omega)]; exact hb⟩, h.lim, ?_⟩
  intro i hi
  obtain ⟨ab, off, x, h1, h2, h3, h4, h5⟩ := h.data i hi
  refine ⟨ab, off, x, h1, h2, h3, h4, ?_⟩
  rw [World.cell?_of_block (w := w) (G.block ab (by omega) (fun e => by injection e with e; omega))]
  exact h5

/-- What the loop of the draw holds. -/
structure NzHold (w w1 wr : World) (b : Nat) (a : Option Addr) (len cap : Nat) (v : Value) (ws : List (Nat × Nat)) : Prop where
  own : wr.ownsRow w1.heap.size 43 2 v ws.length (cells2 ws)
  nn : v ≠ .slice none 0 0
  ok : ∀ p ∈ ws, StgOk p.1 p.2
  bel : Below w.heap.size w wr
  bb : b < w1.heap.size
  wb : w.heap.size ≤ b
  sz : w1.heap.size ≤ wr.heap.size

theorem cells2_length (ws : List (Nat × Nat)) : (cells2 ws).length = ws.length * 2 := by
  induction ws with
  | nil => rfl
  | cons x xs ih =>
    have : cells2 (x :: xs) = [.float .f64 x.1, .float .f64 x.2] ++ cells2 xs := by unfold cells2; simp
    rw [this, List.length_append, ih]
    simp
    omega
theorem at_news2 {w : World} {g : Nat} {cs : List Value} {T : TypeId} (H : At w g (.cells cs.toArray T)) : ∀ j u, cs[j]? = some u → w.cell? ((⟨g, 0, none⟩ : Addr).add j) = some u := by
  intro j u hu
  have e : (⟨g, 0, none⟩ : Addr).add j = ⟨g, j, none⟩ := by
    simp [Addr.add]
    try omega
  rw [e]
  exact H.cell (by simpa using hu)

theorem own_form {w : World} {base : Nat} {e : TypeId} {size : Nat} {v : Value} {n : Nat} {xs : List Value} (h : w.ownsRow base e size v n xs) (hv : v ≠ .slice none 0 0) : ∃ g cap, v = .slice (some ⟨g, 0, none⟩) n cap ∧ base ≤ g := by
  rcases h.2 with ⟨h, _⟩ | ⟨g, cap, cur, h, hb, _⟩
  · exact absurd h hv
  · exact ⟨g, cap, h, hb⟩
theorem zeros_own {w : World} {base g : Nat} {e : TypeId} (h : w.ownsRow base e 2 (.slice (some ⟨g, 0, none⟩) 7 7) 7 (madeCells #[.float .f64 0, .float .f64 0] 14).toList) : w.ownsRow base e 2 (.slice (some ⟨g, 0, none⟩) (List.replicate 7 ((0 : Nat), (0 : Nat))).length 7) (List.replicate 7 ((0 : Nat), (0 : Nat))).length (cells2 (List.replicate 7 (0, 0))) := by
  have e1 : (madeCells #[.float .f64 0, .float .f64 0] 14).toList = cells2 (List.replicate 7 (0, 0)) := by kernel_rfl
  rw [e1] at h
  exact h
theorem own_mono {w : World} {base base' : Nat} {e : TypeId} {size : Nat} {v : Value} {n : Nat} {xs : List Value} (h : w.ownsRow base e size v n xs) (hb : base' ≤ base) : w.ownsRow base' e size v n xs := by
  refine ⟨h.1, ?_⟩
  rcases h.2 with h | ⟨g, cap, cur, h, hg, r⟩
  · exact .inl h
  · exact .inr ⟨g, cap, cur, h, Nat.le_trans hb hg, r⟩

set_option maxRecDepth 8000 in
set_option maxHeartbeats 4000000 in
theorem drawNoise_any {a : Option Addr} {len cap : Nat} {zs : List Int} {w : World} (h : IsRow .u8 w a len cap zs) :
    Calls Try.prog 32 #[.slice a len cap] w fun e w' => ∃ (g c : Nat) (ws : List (Nat × Nat)), e = .returned (.slice (some ⟨g, 0, none⟩) ws.length c) ∧ NzDrawn ws ∧ w'.ownsRow w.heap.size 43 2 (.slice (some ⟨g, 0, none⟩) ws.length c) ws.length (cells2 ws) ∧ Below w.heap.size w w' := by
  go_enter Try.func32, Try.ntmps32
  go_wp2_with fail
  refine (open_any h).mono ?_
  rintro e w1 ⟨b, a1, len1, cap1, rfl, R1, hb, B1⟩
  clear h
  go_wp2_with fail
  have hbl := R1.lt
  have O0 := World.ownsRow_made (base := w1.heap.size) (e := 43) (size := 2) w1 #[] 0 (Nat.le_refl _) (by decide) rfl
  refine (pick_any (R1.alloc _) (by omega) (by omega) (by omega)).mono ?_
  rintro e w2 ⟨q, m2, q0, q1, rfl, hw2⟩
  have R2 : Rd w2 b a1 len1 cap1 (0 + 1) := by rw [hw2]; exact (R1.alloc _).step m2
  have G2 : (w1.alloc (.cells #[] 43)).grownBy w2 (some b) := by rw [hw2]; exact grown_drewN (Lib.grownBy_setB (grown_refl _ _) 1 _) m2
  have N2 : NzHold w w1 w2 b a1 len1 cap1 (.slice (some ⟨w1.heap.size, 0, none⟩) 0 0) [] :=
    ⟨O0.kept G2 (.inr (by show some w1.heap.size ≠ some b; intro e; injection e with e; omega)), by simp, by simp, below_drawn (B1.alloc B1.size _) hb (B1.alloc B1.size _).size G2, hbl, hb, by have := G2.size; simp at this; omega⟩
  obtain ⟨n0, rfl⟩ : ∃ n : Nat, q = (n : Int) := ⟨q.toNat, by omega⟩
  have HN := Lib.hid N2
  have HR := Lib.hid R2
  clear hw2 G2 N2 R2 O0 R1 B1
  go_wp2_with fail
  obtain ⟨i0, hi, hz0, hz1, hz2⟩ := info_parts Try.infoStage
  go_loopw [4, 5] (fun v kv wr => ∃ (n k : Nat) (ws : List (Nat × Nat)), kv = .int .i64 n ∧ ws.length + n ≤ 6 ∧ k ≤ 1 + 4 * ws.length ∧ Rd wr b a1 len1 cap1 k ∧ NzHold w w1 wr b a1 len1 cap1 v ws)
    (fun _ kv _ => (intOf kv).toNat)
  case atStart => exact ⟨n0, 0 + 1, [], rfl, by simp; omega, by simp, HR.out, HN.out⟩
  case round =>
    obtain ⟨n, k, ws, rfl, hn, hk, R, N⟩ := hrel
    clear HN HR
    by_cases h0 : 0 < n
    · obtain ⟨j, rfl⟩ : ∃ j, n = j + 1 := ⟨n - 1, by omega⟩
      have HN := Lib.hid N
      have HR := Lib.hid R
      clear N R
      go_wp2_with fail
      refine (stage_any HR.out (by omega) (by omega) (by omega)).mono ?_
      rintro e w3 ⟨v, k3, ⟨x, y, rfl, hg⟩, rfl, hk3, R3, G3⟩
      have HG := Lib.hid hg
      have N3 : NzHold w w1 w3 b a1 len1 cap1 u4 ws := ⟨HN.out.own.kept G3 (.inr (by intro e; have := (HN.out.own.lt _ e).1; have := HN.out.bb; omega)), HN.out.nn, HN.out.ok, below_drawn HN.out.bel HN.out.wb HN.out.bel.size G3, HN.out.bb, HN.out.wb, Nat.le_trans HN.out.sz G3.size⟩
      have HN3 := Lib.hid N3
      have HR3 := Lib.hid R3
      clear hg R3 G3 N3 HN HR
      have H4 : NzHold w w1 (w3.alloc (.cells #[.float .f64 x, .float .f64 y] 43)) b a1 len1 cap1 u4 ws := ⟨HN3.out.own.alloc _, HN3.out.nn, HN3.out.ok, HN3.out.bel.alloc HN3.out.bel.size _, HN3.out.bb, HN3.out.wb, by have := HN3.out.sz; simp; omega⟩
      have HH4 := Lib.hid H4
      have HR4 := Lib.hid (HR3.out.alloc (.cells #[.float .f64 x, .float .f64 y] 43))
      have hown := H4.own
      have hlen : ws.length ≤ 6 := by omega
      have hsz := HN3.out.sz
      clear H4 HN3 HR3
      go_wp2_with (first | (at_builtin; refine wpList_append_own _ rfl _ _ 46 rfl w1.heap.size 43 i0 (.agg #[.float .f64 0, .float .f64 0]) 2 16 Try.underlying46 hi hz0 hz1 hz2 rfl (by decide) _ _ _ rfl hown ⟨w3.heap.size, 0, none⟩ 1 1 [.float .f64 x, .float .f64 y] rfl rfl ?c1 ?c2 ?c3 ?c4 ?c5 ?_) | fail)
      case c1 => exact at_news2 (At.new w3 _)
      case c2 => intro u hu; simp at hu; rcases hu with rfl | rfl <;> rfl
      case c3 => unfold maxLen; omega
      case c4 => omega
      case c5 => simp; omega
      intro v' w5 O' G' hnil
      have hob : ∀ g, u4.ownBlock = some g → w1.heap.size ≤ g := fun g e => (HH4.out.own.lt g e).1
      have hB5 : Below w.heap.size w w5 := HH4.out.bel.grown G' HH4.out.bel.size (fun g e => by have := hob g (by first | exact e | exact e.symm); have := HH4.out.wb; have := HH4.out.bb; omega)
      have hnn : v' ≠ .slice none 0 0 := by intro e; first | exact hnil e | exact HH4.out.nn (hnil.1 e).1
      have hR5 : Rd w5 b a1 len1 cap1 k3 := by
        cases he : u4.ownBlock with
        | none =>
          rw [he] at G'
          have h := HR4.out
          obtain ⟨T, hb'⟩ := h.blk
          refine ⟨⟨T, by rw [G'.block b h.lt (fun e => by cases e)]; exact hb'⟩, h.lim, ?_⟩
          intro i hi'
          obtain ⟨ab, off, x', g1, g2, g3, g4, g5⟩ := h.data i hi'
          have := h.lt
          refine ⟨ab, off, x', g1, g2, g3, g4, ?_⟩
          rw [World.cell?_of_block (w := w3.alloc (.cells #[.float .f64 x, .float .f64 y] 43)) (G'.block ab (by omega) (fun e => by cases e))]
          exact g5
        | some g =>
          rw [he] at G'
          have := hob g he
          exact HR4.out.keptN G' (by have := HH4.out.bb; omega)
      have H5 : Hid (NzHold w w1 w5 b a1 len1 cap1 v' (ws ++ [(x, y)])) := Lib.hid ⟨by rw [cells2_add, List.length_append]; exact O', hnn, by
        intro p hp
        rcases List.mem_append.1 hp with hp | hp
        · exact HH4.out.ok p hp
        · simp at hp; subst hp; exact HG.out, hB5, HH4.out.bb, HH4.out.wb, Nat.le_trans HH4.out.sz G'.size⟩
      have HR5 := Lib.hid hR5
      clear O' G' hnil hob hB5 hnn hR5 hown HH4 HR4
      go_wp2_with fail
      exact ⟨⟨j, k3, ws ++ [(x, y)], by go_num, by simp; omega, by simp; omega, HR5.out, H5.out⟩, by simp [intOf]⟩
    · have hn0 : n = 0 := by omega
      subst hn0
      have HN := Lib.hid N
      have HR := Lib.hid R
      clear N R
      go_wp2_with fail
      refine (odd_any HR.out (by omega) (by omega) (by omega)).mono ?_
      rintro e w3 ⟨v, k3, ⟨β, rfl, _⟩, rfl, hk3, R3, G3⟩
      have N3 : NzHold w w1 w3 b a1 len1 cap1 u4 ws := ⟨HN.out.own.kept G3 (.inr (by intro e; have := (HN.out.own.lt _ e).1; have := HN.out.bb; omega)), HN.out.nn, HN.out.ok, below_drawn HN.out.bel HN.out.wb HN.out.bel.size G3, HN.out.bb, HN.out.wb, Nat.le_trans HN.out.sz G3.size⟩
      have HN3 := Lib.hid N3
      clear R3 G3 N3 HN HR
      cases β
      · go_wp2_with fail
        obtain ⟨g, c, rfl, _⟩ := own_form HN3.out.own HN3.out.nn
        refine bodyPost_ret (results_tmp rfl _ _ _) rfl ?_
        exact ⟨g, c, ws, rfl, ⟨by omega, .inl ⟨by omega, HN3.out.ok⟩⟩, own_mono HN3.out.own (by have := HN3.out.wb; have := HN3.out.bb; omega), HN3.out.bel⟩
      · go_wp2_with (first | (at_make; refine wpList_make_full _ rfl _ _ 46 rfl w.heap.size 43 i0 (.agg #[.float .f64 0, .float .f64 0]) 2 Try.underlying46 hi hz0 hz1 _ _ 7 7 7 rfl rfl rfl rfl ?b2 ?b3 ?b4 ?_) | fail)
        case b2 => rw [hz2]; decide
        case b3 => unfold maxLen; decide
        case b4 => exact HN3.out.bel.size
        intro w4 O4 G4
        go_wp2_with fail
        refine bodyPost_ret (results_tmp rfl _ _ _) rfl ?_
        exact ⟨w3.heap.size, 7, List.replicate 7 (0, 0), rfl, ⟨by simp, .inr rfl⟩, zeros_own O4, HN3.out.bel.grown G4 HN3.out.bel.size (fun g e => by cases e)⟩

end Go.Proofs.Ytjacmojmjicmjaa
