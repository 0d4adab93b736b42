/- eval: the law on the three. -/
import Derived.Test.YtjkpgmenipdkbaaDoorEvG
namespace Go.Proofs.YtjkpgmenipdkbaaDoor
open Go.RowKit
set_option maxRecDepth 100000
theorem no3_not (l : List Int) : no3 (l.map not3) = yes3 l := by
  unfold no3 yes3
  rw [List.any_map]
  congr 1
  funext v
  show (not3 v == 0) = (v == 1)
  unfold not3
  by_cases h : v = 1
  · subst h; rfl
  · rw [if_neg h]
    by_cases h0 : v = 0
    · subst h0; rfl
    · rw [if_neg h0]; simp [h]
theorem yes3_not (l : List Int) : yes3 (l.map not3) = no3 l := by
  unfold no3 yes3
  rw [List.any_map]
  congr 1
  funext v
  show (not3 v == 1) = (v == 0)
  unfold not3
  by_cases h : v = 1
  · subst h; rfl
  · rw [if_neg h]
    by_cases h0 : v = 0
    · subst h0; rfl
    · rw [if_neg h0]; simp [h0]
theorem un3_not (l : List Int) : un3 (l.map not3) = un3 l := by
  unfold un3
  rw [List.any_map]
  congr 1
  funext v
  show (not3 v != 0 && not3 v != 1) = (v != 0 && v != 1)
  unfold not3
  by_cases h : v = 1
  · subst h; rfl
  · rw [if_neg h]
    by_cases h0 : v = 0
    · subst h0; rfl
    · rw [if_neg h0]; simp [h, h0]
theorem not_and (l : List Int) : not3 (and3 l) = or3 (l.map not3) := by
  unfold and3 or3
  rw [yes3_not, un3_not]
  cases no3 l <;> cases un3 l <;> rfl
theorem not_or (l : List Int) : not3 (or3 l) = and3 (l.map not3) := by
  unfold and3 or3
  rw [no3_not, un3_not]
  cases yes3 l <;> cases un3 l <;> rfl
def thr (x : Int) : Int := (bits BinOp.and IntKind.i64 x 1023).tmod 3
section
variable {w : World} {S : Nat → Prop} {v : Value} {l : List Int}
theorem three_any (x : Int) : Calls Tryd.prog 5 #[.int .i64 x] w fun e w' => e = .returned (.int .i64 (thr x)) ∧ w' = w := by
  unfold thr
  go_enter Tryd.func5, Tryd.ntmps5
  go_wp2_with fail
  go_ret
  exact ⟨rfl, rfl⟩
theorem thr_snoc {f : Int → Int} {k : Nat} (h : k < l.length) : ((l.take (k + 1)).map f).map iv = ((l.take k).map f).map iv ++ [iv (f l[k])] := by
  rw [List.take_succ_eq_append_getElem h, List.map_append, List.map_append]; rfl
set_option maxHeartbeats 800000 in
theorem three17_any (hv : Is w S v l) (x : Int) : Calls Tryd.prog 3 #[v, .int .i64 x] w fun e w' => e = .returned (.bool true) ∧ Ext w w' := by
  obtain ⟨A, c, rfl, q1, q2, q3, q4⟩ := hv.open_
  clear hv
  by_cases hbig : 100 < l.length
  · have hb : decide ((100 : Int) < (l.length : Int)) = true := dtrue (by omega)
    go_enter Tryd.func3, Tryd.ntmps3
    go_wp2_with fail
    go_ret
    exact ⟨rfl, Mod.refl _ _⟩
  have hb : decide ((100 : Int) < (l.length : Int)) = false := dfalse (by omega)
  have htk : Hid (l.take l.length = l) := Lib.hid (List.take_length)
  go_enter Tryd.func3, Tryd.ntmps3
  go_wp2_with fail
  go_loopw [5, 6] (fun m i wr => ∃ k : Nat, k ≤ l.length ∧ i = .int .i64 k ∧ Own wr 3 m (((l.take k).map thr).map iv) ∧ Fresh w.heap.size m ∧ Ext w wr) (fun _ i _ => l.length - (intOf i).toNat)
  case atStart => exact ⟨0, Nat.zero_le _, rfl, Own.nil _ _, fresh_nil _ _ _, Mod.refl _ _⟩
  case round =>
    obtain ⟨k, hk, rfl, ho, hf, hx⟩ := hrel
    by_cases hlt : k < l.length
    · obtain ⟨ad, rfl, hs, hc⟩ := (q4.mod hx fun _ _ _ h => h).at_ hlt
      have hbl : decide ((k : Int) < (l.length : Int)) = true := dtrue (by omega)
      have hsn := thr_snoc (f := thr) hlt
      have ht := fun wx : World => three_any (w := wx) l[k]
      generalize l[k] = x0 at *
      replace hsn := Lib.hid hsn
      go_wp2_with fail
      refine (ht _).mono ?_
      rintro e w1 ⟨rfl, rfl⟩
      clear ht
      go_wp2_with ((with_reducible show wpList _ _ _ (⟨some 23, _, _, _, _, _⟩ :: _) _ _); refine wp_app tyI (ho.alloc _) (Sl.one _ 3 (iv (thr x0))) (fun u hu => by rw [List.mem_singleton.1 hu]; rfl) rfl (.tmp 16) (.tmp 22) rfl rfl rfl ?hn ?_; rotate_right; intro v1 w4 o4 m4 n4)
      case hn => simp; omega
      exact ⟨⟨k + 1, by omega, by go_num, by rw [hsn.out]; exact o4, (n4.sooner (by simp)).fresh hf hx.size, ext_app0 hx hf (mod_app m4)⟩, by simp [intOf] <;> omega⟩
    · have hbl : decide ((k : Int) < (l.length : Int)) = false := dfalse (by omega)
      obtain rfl : k = l.length := by omega
      rw [htk.out] at ho
      obtain ⟨M, hM⟩ : ∃ M, M = l.map thr := ⟨_, rfl⟩
      rw [← hM] at ho
      have hs := ho.sl
      obtain ⟨A1, c1, rfl⟩ := ho.shape
      rw [List.length_map] at hs hf ho
      have ha := and_any hs
      have hra := rand_any hs
      have hor := or_any hs
      have hro := ror_any hs
      have hn := fun wx : World => not_any (w := wx) x
      have hrn := fun wx : World => rnot_any (w := wx) x
      have hkn := fun wx : World => known17_any (w := wx)
      rw [List.length_map]
      clear hM hs ho
      generalize and3 M = r1 at *
      generalize or3 M = r2 at *
      generalize not3 x = r3 at *
      have t1 : (r1 == r1) = true := by simp
      have t2 : (r2 == r2) = true := by simp
      have t3 : (r3 == r3) = true := by simp
      go_wp2_with fail
      refine ha.mono ?_
      rintro e w1 ⟨rfl, rfl⟩
      clear ha
      go_wp2_with fail
      refine hra.mono ?_
      rintro e w1 ⟨rfl, rfl⟩
      clear hra
      go_wp2_with fail
      refine hor.mono ?_
      rintro e w1 ⟨rfl, rfl⟩
      clear hor
      go_wp2_with fail
      refine hro.mono ?_
      rintro e w1 ⟨rfl, rfl⟩
      clear hro
      go_wp2_with fail
      refine (hn _).mono ?_
      rintro e w1 ⟨rfl, rfl⟩
      clear hn
      go_wp2_with fail
      refine (hrn _).mono ?_
      rintro e w1 ⟨rfl, rfl⟩
      clear hrn
      go_wp2_with fail
      refine (hkn _).mono ?_
      rintro e w1 ⟨rfl, x1⟩
      go_wp2_with fail
      go_ret
      exact ⟨rfl, ext_trans hx x1⟩
end
end Go.Proofs.YtjkpgmenipdkbaaDoor
