/-
  The draw of two lists of strings: whatever the bytes, l6Lists returns two lists of at most 8 strings each in memory of their own. Condition: the cursor is whole.
-/
import Derived.Test.YtgngekolnlbddaaStrP
import Derived.Test.YtgngekolnlbddaaCm
namespace Go.Proofs.Ytgngekolnlbddaa
open Go.RowKit
set_option linter.unusedVariables false

theorem lit_strs (w : World) (zs : List ByteArray) : StrsB (w.alloc (.cells (zs.map (Value.string)).toArray 9)) (w.heap.size + 1) (some ⟨w.heap.size, 0, none⟩) zs := fun _ =>
  ⟨_, rfl, by simp, fun j hj => by
    rw [add_zero_at, World.cell?_alloc_at _ _ _ _ rfl, List.getElem?_toArray, List.getElem?_map, List.getElem?_eq_getElem hj]
    simp [List.getD, hj]⟩
theorem OwnS.keepO {w w' : World} {B : Nat} {v : Value} {zs : List ByteArray} {row : Option Nat} (h : OwnS w B v zs) (hg : w.grownBy w' row) (hr : ∀ k, v.ownBlock = some k → row ≠ some k) : OwnS w' B v zs := by
  refine ⟨h.1, ?_⟩
  rcases h.2 with hn | ⟨g, cap, cur, rfl, hB, hh, rest⟩
  · exact .inl hn
  · exact .inr ⟨g, cap, cur, rfl, hB, (hg.block g (Array.getElem?_eq_some_iff.1 hh).1 (fun e => hr g rfl e.symm)).trans hh, rest⟩
theorem owns_baseP {w : World} {B B' : Nat} {v : Value} {zs : List ByteArray} (h : OwnS w B v zs) (hB : B' ≤ B) : OwnS w B' v zs := by
  refine ⟨h.1, ?_⟩
  rcases h.2 with hn | ⟨g, cap, cur, hv, hg, rest⟩
  · exact .inl hn
  · exact .inr ⟨g, cap, cur, hv, by omega, rest⟩
theorem owns_formP {w : World} {B : Nat} {v : Value} {zs : List ByteArray} (h : OwnS w B v zs) :
    ∃ A n c, v = .slice A n c ∧ zs.length = n ∧ OwnS w B (.slice A n c) zs ∧ n ≤ c ∧ c ≤ maxLen := by
  obtain ⟨A, c, rfl, _, _, h1, h2⟩ := h.form
  exact ⟨A, zs.length, c, rfl, rfl, h, h1, h2⟩
set_option maxHeartbeats 800000 in
theorem pick_cm (w0 : World) (g : Nat) (ad : Addr) (n c b : Nat) (ss : List ByteArray) (w : World) (hc : CM w0 w g) (hn : ss.length = n) (hp : 0 < n) (hm : n ≤ 1000) (h : StrsB w b (some ad) ss) (hne : ad.block ≠ g) :
    Calls Try.prog 38 #[.pointer (some ⟨g, 0, none⟩), .slice (some ad) n c] w fun e w' => ∃ x : ByteArray, e = .returned (.string x) ∧ x ∈ ss ∧ CM w0 w' g ∧ Moved w w' g := by
  have HC := Lib.hid hc; have Hn := Lib.hid hn
  obtain ⟨ad', he, hlt, hcell⟩ := h (by rw [hn]; exact hp)
  injection he with he
  subst he
  have Hcell := Lib.hid hcell
  clear hc hn hcell h
  go_enter Try.func38, Try.ntmps38
  go_wp2_with fail
  refine (below_cm w0 g _ _ (by omega) HC.out).mono ?_
  rintro e w1 ⟨k, rfl, hk, hc1, hm1⟩
  have hkn : k < n := by omega
  have hck : w1.cell? (ad.add k) = some (.string (ss.getD k ByteArray.empty)) := hm1.cell (Hcell.out k (by rw [Hn.out]; exact hkn)) (by rw [block_add]; intro e; injection e with e; exact hne e)
  have HM := Lib.hid hm1; have HC1 := Lib.hid hc1
  obtain ⟨y, hy⟩ : ∃ y, ss.getD k ByteArray.empty = y := ⟨_, rfl⟩
  rw [hy] at hck
  have HY := Lib.hid hy
  clear hm1 hc1 hy
  go_wp2
  go_ret
  refine ⟨y, rfl, ?_, HC1.out, HM.out⟩
  have := HY.out
  have hkz : k < ss.length := by rw [Hn.out]; exact hkn
  rw [← this]
  simp only [List.getD, List.getElem?_eq_getElem hkz, Option.getD_some]
  exact List.getElem_mem hkz

def lits4 : List ByteArray := [⟨#[97]⟩, ⟨#[98]⟩, ⟨#[97, 32, 98]⟩, ⟨#[]⟩]
/-- what the loop of l6Lists keeps -/
def LsQ (w wr : World) (g : Nat) (u v : Value) (zs ys : List ByteArray) (i j : Nat) : Prop :=
  OwnS wr w.heap.size u zs ∧ OwnS wr w.heap.size v ys ∧ (∀ b, u.ownBlock = some b → v.ownBlock ≠ some b) ∧ zs.length + i ≤ 8 ∧ ys.length + j ≤ 8 ∧ CM w wr g
def LsR (w wr : World) (g : Nat) (u v : Value) (zs ys : List ByteArray) (k : Nat) : Prop := LsQ w wr g u v zs ys k k
theorem LsQ.moved {w wr w' : World} {g i j : Nat} {u v : Value} {zs ys : List ByteArray} (h : LsQ w wr g u v zs ys i j) (hg : g < w.heap.size) (hm : Moved wr w' g) (hc : CM w w' g) : LsQ w w' g u v zs ys i j :=
  ⟨h.1.grown_lt hm (fun b hb => by injection hb with hb; omega), h.2.1.grown_lt hm (fun b hb => by injection hb with hb; omega), h.2.2.1, h.2.2.2.1, h.2.2.2.2.1, hc⟩

theorem LsQ.lessL {w wr : World} {g i j : Nat} {u v : Value} {zs ys : List ByteArray} (h : LsQ w wr g u v zs ys (i + 1) j) : LsQ w wr g u v zs ys i j :=
  ⟨h.1, h.2.1, h.2.2.1, by have := h.2.2.2.1; omega, h.2.2.2.2.1, h.2.2.2.2.2⟩
theorem LsQ.lessR {w wr : World} {g i j : Nat} {u v : Value} {zs ys : List ByteArray} (h : LsQ w wr g u v zs ys i (j + 1)) : LsQ w wr g u v zs ys i j :=
  ⟨h.1, h.2.1, h.2.2.1, h.2.2.2.1, by have := h.2.2.2.2.1; omega, h.2.2.2.2.2⟩
theorem cm_grown {w wr w' : World} {g : Nat} {row : Option Nat} (h : CM w wr g) (hg : wr.grownBy w' row) (hr : ∀ b, row = some b → w.heap.size ≤ b) (hgw : g < w.heap.size) : CM w w' g :=
  h.belowB ((Below.refl w.heap.size wr).grown hg h.2.size hr) (Nat.le_refl _) hgw
theorem LsQ.pushL {w wr w' : World} {g i j : Nat} {u v u' : Value} {zs ys : List ByteArray} {s : ByteArray} (h : LsQ w wr g u v zs ys (i + 1) j) (hO : OwnS w' w.heap.size u' (zs ++ [s])) (hg : wr.grownBy w' u.ownBlock) (hv : ∀ b, u'.ownBlock = some b → u.ownBlock = some b ∨ wr.heap.size ≤ b) (hgw : g < w.heap.size) : LsQ w w' g u' v (zs ++ [s]) ys i j := by
  obtain ⟨h1, h2, h3, h4, h5, h6⟩ := h
  refine ⟨hO, h2.keepO hg (fun b hb e => h3 b e hb), fun b hb hb2 => ?_, by simp; omega, h5, cm_grown h6 hg (fun b hb => (World.ownsRow.lt h1 b hb).1) hgw⟩
  rcases hv b hb with e | e
  · exact h3 b e hb2
  · have := (World.ownsRow.lt h2 b hb2).2; omega
theorem LsQ.pushR {w wr w' : World} {g i j : Nat} {u v v' : Value} {zs ys : List ByteArray} {s : ByteArray} (h : LsQ w wr g u v zs ys i (j + 1)) (hO : OwnS w' w.heap.size v' (ys ++ [s])) (hg : wr.grownBy w' v.ownBlock) (hv : ∀ b, v'.ownBlock = some b → v.ownBlock = some b ∨ wr.heap.size ≤ b) (hgw : g < w.heap.size) : LsQ w w' g u v' zs (ys ++ [s]) i j := by
  obtain ⟨h1, h2, h3, h4, h5, h6⟩ := h
  refine ⟨h1.keepO hg (fun b hb e => h3 b hb e), hO, fun b hb hb2 => ?_, h4, by simp; omega, cm_grown h6 hg (fun b hb => (World.ownsRow.lt h2 b hb).1) hgw⟩
  rcases hv b hb2 with e | e
  · exact h3 b hb e
  · have := (World.ownsRow.lt h1 b hb).2; omega

set_option maxRecDepth 100000 in
set_option maxHeartbeats 3200000 in
theorem lists_cm (g : Nat) (w : World) (hc : Cur w g) :
    Calls Try.prog 39 #[.pointer (some ⟨g, 0, none⟩)] w fun e w' => ∃ u v zs ys, e = .returned (.tuple #[u, v]) ∧ LsR w w' g u v zs ys 0 := by
  have hgw := hc.lt
  have HC := Lib.hid (CM.of hc)
  clear hc
  have HC2 := Lib.hid ((HC.out.alloc (.cells #[] 9)).alloc (.cells #[] 9))
  go_enter Try.func39, Try.ntmps39
  go_wp2_with fail
  refine (below_cm w g _ _ (by omega) HC2.out).mono ?_
  rintro e w1 ⟨k0, rfl, hk0, hc1, hm1⟩
  have hR : LsR w w1 g (.slice (some ⟨w.heap.size, 0, none⟩) 0 0) (.slice (some ⟨w.heap.size + 1, 0, none⟩) 0 0) [] [] k0 := by
    have h1 : OwnS (w.alloc (.cells #[] 9)) w.heap.size (.slice (some ⟨w.heap.size, 0, none⟩) 0 0) [] := World.ownsRow_lit w #[] 0 (Nat.le_refl _) (Nat.zero_le _) rfl
    have h2 : OwnS ((w.alloc (.cells #[] 9)).alloc (.cells #[] 9)) (w.alloc (.cells #[] 9)).heap.size (.slice (some ⟨(w.alloc (.cells #[] 9)).heap.size, 0, none⟩) 0 0) [] := World.ownsRow_lit (w.alloc (.cells #[] 9)) #[] 0 (Nat.le_refl _) (Nat.zero_le _) rfl
    have e : (w.alloc (.cells #[] 9)).heap.size = w.heap.size + 1 := by simp
    rw [e] at h2
    have h3 : OwnS ((w.alloc (.cells #[] 9)).alloc (.cells #[] 9)) w.heap.size (.slice (some ⟨w.heap.size + 1, 0, none⟩) 0 0) [] := by
      exact owns_baseP h2 (by omega)
    refine ⟨(h1.below ((Below.refl _ _).alloc (Nat.le_refl _) _)).grown_lt hm1 (fun b hb => by injection hb with hb; omega), h3.grown_lt hm1 (fun b hb => by injection hb with hb; omega), fun b hb hb2 => ?_, by simp; omega, by simp; omega, hc1⟩
    have e1 : w.heap.size = b := by injection hb
    have e2 : w.heap.size + 1 = b := by injection hb2
    omega
  have HR := Lib.hid hR
  clear hR hc1 hm1 HC2
  go_wp2
  go_loopw [4, 5, 6] (fun u v q wr => ∃ (k : Nat) (zs ys : List ByteArray), q = .int .i64 k ∧ LsR w wr g u v zs ys k) (fun _ _ q _ => (intOf q).toNat)
  case atStart => exact ⟨k0, [], [], rfl, HR.out⟩
  case round =>
    clear HR
    obtain ⟨k, zs, ys, rfl, hR⟩ := hrel
    have HR := Lib.hid hR
    clear hR
    by_cases hk : 0 < k
    · obtain ⟨k', rfl⟩ : ∃ k', k = k' + 1 := ⟨k - 1, by omega⟩
      have hgr : g < wr.heap.size := HR.out.2.2.2.2.2.lt
      have hk8 : k' ≤ 8 := by have := HR.out.2.2.2.1; omega
      have HCa := Lib.hid (HR.out.2.2.2.2.2.alloc (.cells #[.string ⟨#[97]⟩, .string ⟨#[98]⟩, .string ⟨#[97, 32, 98]⟩, .string ⟨#[]⟩] 9))
      have HLit := Lib.hid (lit_strs wr lits4)
      go_wp2_with fail
      refine (pick_cm w g ⟨wr.heap.size, 0, none⟩ 4 4 (wr.heap.size + 1) lits4 _ HCa.out rfl (by omega) (by omega) HLit.out (by show wr.heap.size ≠ g; omega)).mono ?_
      rintro e w2 ⟨s, rfl, hs, hc2, hm2⟩
      have HR2 := Lib.hid (HR.out.moved hgw ((Moved.alloc _ _ _).trans hm2) hc2)
      have hss : s.size ≤ 3 := by simp [lits4] at hs; rcases hs with rfl | rfl | rfl | rfl <;> decide
      clear hs hc2 hm2 HCa HLit HR
      go_wp2_with fail
      refine (once_cm w g _ _ HR2.out.2.2.2.2.2).mono ?_
      rintro e w3 ⟨b1, rfl, hc3, hm3⟩
      have HR3 := Lib.hid (HR2.out.moved hgw hm3 hc3)
      clear hc3 hm3 HR2
      cases b1
      · have hsz3 : w.heap.size ≤ w3.heap.size := HR3.out.2.2.2.2.2.2.size
        go_wp2_with (at_builtin; refine wpls_push2 _ rfl (.tmp 22) (.tmp 24) rfl w.heap.size _ zs s rfl rfl HR3.out.1 hsz3 (by have := HR3.out.2.2.2.1; omega) ?_; intro v4 w4 hO4 hg4 hv4; have HR4 := Lib.hid (LsQ.pushL HR3.out hO4 hg4 hv4 hgw); clear hO4 hg4 hv4 HR3)
        go_wp2_with fail
        refine (once_cm w g _ _ HR4.out.2.2.2.2.2).mono ?_
        rintro e w5 ⟨b2, rfl, hc5, hm5⟩
        have HR5 := Lib.hid (HR4.out.moved hgw hm5 hc5)
        clear hc5 hm5 HR4
        cases b2
        · have hsz5 : w.heap.size ≤ w5.heap.size := HR5.out.2.2.2.2.2.2.size
          go_wp2_with (at_builtin; refine wpls_push2 _ rfl (.tmp 29) (.tmp 31) rfl w.heap.size _ ys s rfl rfl HR5.out.2.1 hsz5 (by have := HR5.out.2.2.2.2.1; omega) ?_; intro v6 w6 hO6 hg6 hv6; have HR6 := Lib.hid (LsQ.pushR HR5.out hO6 hg6 hv6 hgw); clear hO6 hg6 hv6)
          go_roundw
          case rel => exact ⟨k', _, _, by go_num, HR6.out⟩
          case measure => simp [intOf]
        · go_wp2
          go_roundw
          case rel => exact ⟨k', _, _, by go_num, HR5.out.lessR⟩
          case measure => simp [intOf]
      · have HR4 := Lib.hid (LsQ.lessL HR3.out)
        clear HR3
        go_wp2_with fail
        refine (once_cm w g _ _ HR4.out.2.2.2.2.2).mono ?_
        rintro e w5 ⟨b2, rfl, hc5, hm5⟩
        have HR5 := Lib.hid (HR4.out.moved hgw hm5 hc5)
        clear hc5 hm5 HR4
        cases b2
        · have hsz5 : w.heap.size ≤ w5.heap.size := HR5.out.2.2.2.2.2.2.size
          go_wp2_with (at_builtin; refine wpls_push2 _ rfl (.tmp 29) (.tmp 31) rfl w.heap.size _ ys s rfl rfl HR5.out.2.1 hsz5 (by have := HR5.out.2.2.2.2.1; omega) ?_; intro v6 w6 hO6 hg6 hv6; have HR6 := Lib.hid (LsQ.pushR HR5.out hO6 hg6 hv6 hgw); clear hO6 hg6 hv6)
          go_roundw
          case rel => exact ⟨k', _, _, by go_num, HR6.out⟩
          case measure => simp [intOf]
        · go_wp2
          go_roundw
          case rel => exact ⟨k', _, _, by go_num, HR5.out.lessR⟩
          case measure => simp [intOf]
    · have hk0' : k = 0 := by omega
      obtain ⟨A1, n1, c1, hu, _, _, _, _⟩ := owns_formP HR.out.1
      obtain ⟨A2, n2, c2, hv, _, _, _, _⟩ := owns_formP HR.out.2.1
      subst hu; subst hv; subst hk0'
      go_wp2
      go_ret2
      exact ⟨_, _, zs, ys, rfl, HR.out⟩
end Go.Proofs.Ytgngekolnlbddaa
