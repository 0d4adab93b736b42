/- eval: the law on what is turned. -/
import Derived.Test.YtjkpgmenipdkbaaDoorEvH
namespace Go.Proofs.YtjkpgmenipdkbaaDoor
open Go.RowKit
set_option maxRecDepth 100000
theorem own_apart {w : World} {m n v1 : Value} {xs : List Value} {B : Nat} (hn : Own w 3 n xs) (hap : ∀ k, own m k → ¬ own n k) (hnx : Next B m v1) (hB : w.heap.size ≤ B) : ∀ k, own v1 k → ¬ own n k := fun k h1 h2 => by
  have hk := hn.lt h2
  exact hap k (hnx.sub (by omega) h1) h2
theorem own_apart2 {w : World} {m n v1 : Value} {xs : List Value} {B : Nat} (hm : Own w 3 m xs) (hap : ∀ k, own m k → ¬ own n k) (hnx : Next B n v1) (hB : w.heap.size ≤ B) : ∀ k, own m k → ¬ own v1 k := fun k h1 h2 => by
  have hk := hm.lt h1
  exact hap k h1 (hnx.sub (by omega) h2)
section
variable {w : World} {S : Nat → Prop} {v : Value} {l : List Int}
set_option maxHeartbeats 1600000 in
theorem turned17_any (hv : Is w S v l) : Calls Tryd.prog 4 #[v] w fun e w' => e = .returned (.bool true) ∧ Ext w w' := by
  obtain ⟨A, c, rfl, q1, q2, q3, q4⟩ := hv.open_
  clear hv
  by_cases hbig : 100 < l.length
  · have hb : decide ((100 : Int) < (l.length : Int)) = true := dtrue (by omega)
    go_enter Tryd.func4, Tryd.ntmps4
    go_wp2_with fail
    go_ret
    exact ⟨rfl, Mod.refl _ _⟩
  have hb : decide ((100 : Int) < (l.length : Int)) = false := dfalse (by omega)
  have htk : Hid (l.take l.length = l) := Lib.hid (List.take_length)
  go_enter Tryd.func4, Tryd.ntmps4
  go_wp2_with fail
  go_loopw [3, 4, 5] (fun m n i wr => ∃ k : Nat, k ≤ l.length ∧ i = .int .i64 k ∧ Own wr 3 m (((l.take k).map thr).map iv) ∧ Own wr 3 n (((l.take k).map fun x => not3 (thr x)).map iv) ∧ (∀ k, own m k → ¬ own n k) ∧ Fresh w.heap.size m ∧ Fresh w.heap.size n ∧ Ext w wr) (fun _ _ i _ => l.length - (intOf i).toNat)
  case atStart => exact ⟨0, Nat.zero_le _, rfl, Own.nil _ _, Own.nil _ _, fun _ h => by simp [own, Value.ownBlock] at h, fresh_nil _ _ _, fresh_nil _ _ _, Mod.refl _ _⟩
  case round =>
    obtain ⟨k, hk, rfl, ho, hp, hap, hf, hg, hx⟩ := hrel
    by_cases hlt : k < l.length
    · obtain ⟨ad, rfl, hs, hc⟩ := (q4.mod hx fun _ _ _ h => h).at_ hlt
      have hbl : decide ((k : Int) < (l.length : Int)) = true := dtrue (by omega)
      have hsn := thr_snoc (f := thr) hlt
      have hsn2 := thr_snoc (f := fun x => not3 (thr x)) hlt
      have ht := fun wx : World => three_any (w := wx) l[k]
      have hn := fun wx : World => not_any (w := wx) (thr l[k])
      have hcc : ∀ {wx : World}, Ext w wx → wx.cell? (ad.add k) = some (iv l[k]) := fun {wx} m => by
        obtain ⟨_, h1, _, h2⟩ := (q4.mod m fun _ _ _ h => h).at_ hlt
        injection h1 with h1
        subst h1
        exact h2
      generalize l[k] = x0 at *
      replace hsn := Lib.hid hsn
      replace hsn2 := Lib.hid hsn2
      go_wp2_with fail
      refine (ht _).mono ?_
      rintro e w1 ⟨rfl, rfl⟩
      go_wp2_with ((with_reducible show wpList _ _ _ (⟨some 22, _, _, _, _, _⟩ :: _) _ _); refine wp_app tyI (ho.alloc _) (Sl.one _ 3 (iv (thr x0))) (fun u hu => by rw [List.mem_singleton.1 hu]; rfl) rfl (.tmp 15) (.tmp 21) rfl rfl rfl ?hn ?_; rotate_right; intro v1 w4 o4 m4 n4; have y4 := ext_app0 hx hf (mod_app m4); have c4 := hcc y4)
      case hn => simp; omega
      have p4 := hp.mod (mod_app m4) fun k h1 h2 => hap k h2 h1
      have a1 := own_apart hp hap n4 (by simp)
      have f1 := (n4.sooner (by simp) : Next _ _ _).fresh hf hx.size
      refine (ht _).mono ?_
      rintro e w5 ⟨rfl, rfl⟩
      go_wp2_with fail
      refine (hn _).mono ?_
      rintro e w5 ⟨rfl, rfl⟩
      go_wp2_with ((with_reducible show wpList _ _ _ (⟨some 31, _, _, _, _, _⟩ :: _) _ _); refine wp_app tyI (p4.alloc _) (Sl.one _ 3 (iv (not3 (thr x0)))) (fun u hu => by rw [List.mem_singleton.1 hu]; rfl) rfl (.tmp 23) (.tmp 30) rfl rfl rfl ?hn ?_; rotate_right; intro v5 w6 o6 m6 n6)
      case hn => simp; omega
      have a2 := own_apart2 o4 a1 n6 (by simp)
      exact ⟨⟨k + 1, by omega, by go_num, by rw [hsn.out]; exact o4.mod (mod_app m6) a1, by rw [hsn2.out]; exact o6, a2, f1, (n6.sooner (by simp)).fresh hg y4.size, ext_app0 y4 hg (mod_app m6)⟩, by simp [intOf] <;> omega⟩
    · have hbl : decide ((k : Int) < (l.length : Int)) = false := dfalse (by omega)
      obtain rfl : k = l.length := by omega
      rw [htk.out] at ho hp
      obtain ⟨M, hM⟩ : ∃ M, M = l.map thr := ⟨_, rfl⟩
      obtain ⟨N, hN⟩ : ∃ N, N = l.map fun x => not3 (thr x) := ⟨_, rfl⟩
      have hMN : N = M.map not3 := by rw [hM, hN, List.map_map]; rfl
      rw [← hM] at ho
      rw [← hN] at hp
      have hs := ho.sl
      have hs2 := hp.sl
      obtain ⟨A1, c1, rfl⟩ := ho.shape
      obtain ⟨A2, c2, rfl⟩ := hp.shape
      rw [List.length_map] at *
      have ha := and_any hs
      have ho1 := or_any hs
      have ho2 := or_any hs2
      have ha2 := and_any hs2
      have hn1 := fun wx : World => not_any (w := wx) (and3 M)
      have hn2 := fun wx : World => not_any (w := wx) (or3 M)
      rw [not_and, ← hMN] at hn1
      rw [not_or, ← hMN] at hn2
      have hkn := fun wx : World => known17_any (w := wx)
      clear hM hN hMN hs hs2 ho hp hap hf hg
      generalize and3 M = r1 at *
      generalize or3 M = r2 at *
      generalize or3 N = r3 at *
      generalize and3 N = r4 at *
      have t1 : (r3 == r3) = true := by simp
      have t2 : (r4 == r4) = true := by simp
      go_wp2_with fail
      refine ha.mono ?_
      rintro e w1 ⟨rfl, rfl⟩
      clear ha
      go_wp2_with fail
      refine (hn1 _).mono ?_
      rintro e w1 ⟨rfl, rfl⟩
      clear hn1
      go_wp2_with fail
      refine ho2.mono ?_
      rintro e w1 ⟨rfl, rfl⟩
      clear ho2
      go_wp2_with fail
      refine ho1.mono ?_
      rintro e w1 ⟨rfl, rfl⟩
      clear ho1
      go_wp2_with fail
      refine (hn2 _).mono ?_
      rintro e w1 ⟨rfl, rfl⟩
      clear hn2
      go_wp2_with fail
      refine ha2.mono ?_
      rintro e w1 ⟨rfl, rfl⟩
      clear ha2
      go_wp2_with fail
      refine (hkn _).mono ?_
      rintro e w1 ⟨rfl, x1⟩
      go_wp2_with fail
      go_ret
      exact ⟨rfl, ext_trans hx x1⟩
end
end Go.Proofs.YtjkpgmenipdkbaaDoor
