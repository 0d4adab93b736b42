/- disk: several files synced, removed; rows laid behind any file. -/
import Derived.Test.YtagchhcpmibelaaDkM
namespace Go.Proofs.Ytagchhcpmibelaa
open Go.RowKit Go.Maps Go.WideMaps
set_option maxRecDepth 100000

def eachD (step : Ds → List UInt8 → Ds × Nat) : Ds → Tx → Ds × Nat
  | d, [] => (d, 0)
  | d, x :: L => if (step d x).2 ≠ 0 then step d x else eachD step (step d x).1 L
theorem eachD_err {step : Ds → List UInt8 → Ds × Nat} {d : Ds} {x : List UInt8} {L : Tx} (h : (step d x).2 ≠ 0) : eachD step d (x :: L) = step d x := by rw [eachD, if_pos h]
theorem eachD_ok {step : Ds → List UInt8 → Ds × Nat} {d : Ds} {x : List UInt8} {L : Tx} (h : (step d x).2 = 0) : eachD step d (x :: L) = eachD step (step d x).1 L := by rw [eachD, if_neg (by simpa using h)]
set_option maxHeartbeats 8000000 in
theorem each_sync {S T : Nat → Prop} {w : World} {d : Ds} {v y : Value} {L : Tx} (h : Dk S w v d) (hy : Ts w T y L) (hsep : ∀ k, T k → ¬ S k) :
    Calls Try.prog 66 #[v, y, .func (.func 67) #[v] #[]] w fun e w' => e = .returned (ev (eachD syncD d L).2) ∧ Dk (Grow S w) w' v (eachD syncD d L).1 ∧ Mod S w w' := by
  obtain ⟨A, c, rfl, h1, h2, h3, h4⟩ := hy.open_
  clear hy
  have hp : ∃ bd, v = pv bd := by obtain ⟨bd, _, _, _, e, _⟩ := h; exact ⟨bd, e⟩
  obtain ⟨bd, rfl⟩ := hp
  obtain ⟨R, hR⟩ : ∃ R, R = eachD syncD d L := ⟨_, rfl⟩
  rw [← hR]
  replace hR := Lib.hid hR
  go_enter Try.func66, Try.ntmps66
  go_wp2_with fail
  go_loopw [14] (fun i wr => ∃ (k : Nat) (d' : Ds), k ≤ L.length ∧ i = .int .i64 k ∧ Hid (eachD syncD d' (L.drop k) = R) ∧ Dk (Grow S w) wr (pv bd) d' ∧ Mod S w wr) (fun i _ => L.length - (intOf i).toNat)
  case atStart => exact ⟨0, d, Nat.zero_le _, rfl, Lib.hid hR.out.symm, h.grow w, Mod.refl _ _⟩
  case round =>
    clear h
    obtain ⟨k, d', hk, rfl, hs, hd, hm⟩ := hrel
    by_cases hlt : k < L.length
    case neg =>
      have hbl : decide ((k : Int) < (L.length : Int)) = false := dfalse (by omega)
      have he : R = (d', 0) := by
        have := hs.out
        rw [List.drop_of_length_le (by omega)] at this
        exact this.symm
      clear hs hR
      subst he
      go_wp2_with fail
      go_ret
      exact ⟨rfl, hd, hm⟩
    have hbl : decide ((k : Int) < (L.length : Int)) = true := dtrue (by omega)
    obtain ⟨ad, hA, hS, c0⟩ := (Cells.mod h4 hm (fun k _ hk => hsep k hk)).at_ hlt
    subst hA
    have hi0 : (0 : Int) ≤ (k : Int) := by omega
    have hi1 : (k : Int) < (L.length : Int) := by omega
    have hdr : L.drop k = L[k] :: L.drop (k + 1) := List.drop_eq_getElem_cons hlt
    have hc := sync_any hd L[k]
    have hsz := hm.size
    have hst1 : (syncD d' L[k]).2 ≠ 0 → R = syncD d' L[k] := fun h => by rw [← hs.out, hdr, eachD_err h]
    have hst2 : (syncD d' L[k]).2 = 0 → Hid (eachD syncD (syncD d' L[k]).1 (L.drop (k + 1)) = R) := fun h => Lib.hid (by rw [← hs.out, hdr, eachD_ok h])
    have hmono : ∀ {wx : World} {dx : Ds}, Dk (Grow (Grow S w) wr) wx (pv bd) dx → Dk (Grow S w) wx (pv bd) dx := fun h => h.mono fun k _ hk => hk.elim id fun hk => .inr (Nat.le_trans hsz hk)
    have hmm : ∀ {wx : World}, Mod (Grow S w) wr wx → Mod S w wx := fun h => hm.trans h (fun _ _ h => h) fun k hk h => h.elim id fun h => by omega
    clear hs hdr
    generalize L[k] = x at *
    obtain ⟨r, hr⟩ : ∃ r, r = syncD d' x := ⟨_, rfl⟩
    rw [← hr] at hc hst1 hst2
    replace hr := Lib.hid hr
    obtain ⟨dn, n⟩ := r
    by_cases hn : n = 0
    · subst hn
      have hs2 := hst2 rfl
      clear hst1 hst2
      go_wp2_with fail
      refine hc.mono ?_
      rintro e w2 ⟨rfl, h2', m2⟩
      clear hc
      go_wp2_with fail
      exact ⟨⟨k + 1, dn, by omega, by go_num, hs2, hmono h2', hmm m2⟩, by simp [intOf] <;> omega⟩
    · have hs2 := hst1 hn
      have hb := n_ne0 hn
      clear hst1 hst2
      clear hR
      subst hs2
      go_wp2_with fail
      refine hc.mono ?_
      rintro e w2 ⟨rfl, h2', m2⟩
      clear hc
      go_wp2_with fail
      go_ret
      exact ⟨rfl, hmono h2', hmm m2⟩
set_option maxHeartbeats 4000000 in
theorem Sync_any {S T : Nat → Prop} {w : World} {d : Ds} {v y : Value} {L : Tx} (h : Dk S w v d) (hy : Ts w T y L) (hsep : ∀ k, T k → ¬ S k) :
    Calls Try.prog 22 #[v, y] w fun e w' => e = .returned (ev (eachD syncD d L).2) ∧ Dk (Grow S w) w' v (eachD syncD d L).1 ∧ Mod S w w' := by
  have hc := each_sync h hy hsep
  clear h hy
  generalize eachD syncD d L = R at *
  go_enter Try.func22, Try.ntmps22
  go_wp2_with fail
  refine hc.mono ?_
  rintro e w1 ⟨rfl, h1, m1⟩
  clear hc
  go_wp2_with fail
  go_ret
  exact ⟨rfl, h1, m1⟩
set_option maxHeartbeats 8000000 in
theorem each_remove {S T : Nat → Prop} {w : World} {d : Ds} {v y : Value} {L : Tx} (h : Dk S w v d) (hy : Ts w T y L) (hsep : ∀ k, T k → ¬ S k) :
    Calls Try.prog 66 #[v, y, .func (.func 68) #[v] #[]] w fun e w' => e = .returned (ev (eachD removeD d L).2) ∧ Dk (Grow S w) w' v (eachD removeD d L).1 ∧ Mod S w w' := by
  obtain ⟨A, c, rfl, h1, h2, h3, h4⟩ := hy.open_
  clear hy
  have hp : ∃ bd, v = pv bd := by obtain ⟨bd, _, _, _, e, _⟩ := h; exact ⟨bd, e⟩
  obtain ⟨bd, rfl⟩ := hp
  obtain ⟨R, hR⟩ : ∃ R, R = eachD removeD d L := ⟨_, rfl⟩
  rw [← hR]
  replace hR := Lib.hid hR
  go_enter Try.func66, Try.ntmps66
  go_wp2_with fail
  go_loopw [14] (fun i wr => ∃ (k : Nat) (d' : Ds), k ≤ L.length ∧ i = .int .i64 k ∧ Hid (eachD removeD d' (L.drop k) = R) ∧ Dk (Grow S w) wr (pv bd) d' ∧ Mod S w wr) (fun i _ => L.length - (intOf i).toNat)
  case atStart => exact ⟨0, d, Nat.zero_le _, rfl, Lib.hid hR.out.symm, h.grow w, Mod.refl _ _⟩
  case round =>
    clear h
    obtain ⟨k, d', hk, rfl, hs, hd, hm⟩ := hrel
    by_cases hlt : k < L.length
    case neg =>
      have hbl : decide ((k : Int) < (L.length : Int)) = false := dfalse (by omega)
      have he : R = (d', 0) := by
        have := hs.out
        rw [List.drop_of_length_le (by omega)] at this
        exact this.symm
      clear hs hR
      subst he
      go_wp2_with fail
      go_ret
      exact ⟨rfl, hd, hm⟩
    have hbl : decide ((k : Int) < (L.length : Int)) = true := dtrue (by omega)
    obtain ⟨ad, hA, hS, c0⟩ := (Cells.mod h4 hm (fun k _ hk => hsep k hk)).at_ hlt
    subst hA
    have hi0 : (0 : Int) ≤ (k : Int) := by omega
    have hi1 : (k : Int) < (L.length : Int) := by omega
    have hdr : L.drop k = L[k] :: L.drop (k + 1) := List.drop_eq_getElem_cons hlt
    have hc := remove_any hd L[k]
    have hsz := hm.size
    have hst1 : (removeD d' L[k]).2 ≠ 0 → R = removeD d' L[k] := fun h => by rw [← hs.out, hdr, eachD_err h]
    have hst2 : (removeD d' L[k]).2 = 0 → Hid (eachD removeD (removeD d' L[k]).1 (L.drop (k + 1)) = R) := fun h => Lib.hid (by rw [← hs.out, hdr, eachD_ok h])
    have hmono : ∀ {wx : World} {dx : Ds}, Dk (Grow (Grow S w) wr) wx (pv bd) dx → Dk (Grow S w) wx (pv bd) dx := fun h => h.mono fun k _ hk => hk.elim id fun hk => .inr (Nat.le_trans hsz hk)
    have hmm : ∀ {wx : World}, Mod (Grow S w) wr wx → Mod S w wx := fun h => hm.trans h (fun _ _ h => h) fun k hk h => h.elim id fun h => by omega
    clear hs hdr
    generalize L[k] = x at *
    obtain ⟨r, hr⟩ : ∃ r, r = removeD d' x := ⟨_, rfl⟩
    rw [← hr] at hc hst1 hst2
    replace hr := Lib.hid hr
    obtain ⟨dn, n⟩ := r
    by_cases hn : n = 0
    · subst hn
      have hs2 := hst2 rfl
      clear hst1 hst2
      go_wp2_with fail
      refine hc.mono ?_
      rintro e w2 ⟨rfl, h2', m2⟩
      clear hc
      go_wp2_with fail
      exact ⟨⟨k + 1, dn, by omega, by go_num, hs2, hmono h2', hmm m2⟩, by simp [intOf] <;> omega⟩
    · have hs2 := hst1 hn
      have hb := n_ne0 hn
      clear hst1 hst2
      clear hR
      subst hs2
      go_wp2_with fail
      refine hc.mono ?_
      rintro e w2 ⟨rfl, h2', m2⟩
      clear hc
      go_wp2_with fail
      go_ret
      exact ⟨rfl, hmono h2', hmm m2⟩
set_option maxHeartbeats 4000000 in
theorem Remove_any {S T : Nat → Prop} {w : World} {d : Ds} {v y : Value} {L : Tx} (h : Dk S w v d) (hy : Ts w T y L) (hsep : ∀ k, T k → ¬ S k) :
    Calls Try.prog 26 #[v, y] w fun e w' => e = .returned (ev (eachD removeD d L).2) ∧ Dk (Grow S w) w' v (eachD removeD d L).1 ∧ Mod S w w' := by
  have hc := each_remove h hy hsep
  clear h hy
  generalize eachD removeD d L = R at *
  go_enter Try.func26, Try.ntmps26
  go_wp2_with fail
  refine hc.mono ?_
  rintro e w1 ⟨rfl, h1, m1⟩
  clear hc
  go_wp2_with fail
  go_ret
  exact ⟨rfl, h1, m1⟩

theorem append_any {S T : Nat → Prop} {w : World} {d : Ds} {v y : Value} (h : Dk S w v d) (x : List UInt8) {P : Tx} (hy : Rw w T y P) (hsep : ∀ k, T k → ¬ S k) (hp : P.length ≤ 1000000) :
    Calls Try.prog 18 #[v, sv x, y] w fun e w' => e = .returned (ev (appendD d x P).2) ∧ Dk (Grow S w) w' v (appendD d x P).1 ∧ Mod S w w' := by
  obtain ⟨bd, bm, D, G, rfl, h⟩ := h
  have hd : Dk S w (pv bd) d := ⟨bd, bm, D, G, rfl, h⟩
  by_cases hb : begD d [x] = 0
  case neg =>
    have e : appendD d x P = (d, begD d [x]) := by unfold appendD; rw [if_pos hb]
    rw [e]
    exact (append_err h x y hb).mono fun e w' ⟨h1, h2⟩ => ⟨h1, (hd.ext h2).grow w, h2.mono fun _ _ h => h.elim⟩
  have e0 : appendD d x P = if ¬ sumB d.L + tot P ≤ d.room then (d, 6) else match getF d.L x with
    | none => if 4096 ≤ d.L.length then (d, 6) else (doneD { d with L := putF d.L ⟨x, P.flatten, 0⟩ }, 0)
    | some f => (doneD { d with L := putF d.L ⟨f.name, f.b ++ P.flatten, f.last⟩ }, 0) := by unfold appendD; rw [if_neg (by simpa using hb)]; rfl
  by_cases hft : sumB d.L + tot P ≤ d.room
  case neg =>
    rw [if_pos hft] at e0
    rw [e0]
    exact (append_full h x hy hp hb (.inl hft)).mono fun e w' ⟨h1, h2⟩ => ⟨h1, (hd.ext h2).grow w, h2.mono fun _ _ h => h.elim⟩
  rw [if_neg (fun h => h hft)] at e0
  cases hx : getF d.L x with
  | none =>
    rw [hx] at e0
    by_cases hfew : 4096 ≤ d.L.length
    · simp only [if_pos hfew] at e0
      rw [e0]
      exact (append_full h x hy hp hb (.inr ⟨hx, hfew⟩)).mono fun e w' ⟨h1, h2⟩ => ⟨h1, (hd.ext h2).grow w, h2.mono fun _ _ h => h.elim⟩
    · simp only [if_neg hfew] at e0
      rw [e0]
      exact append_new h hx hy hsep hp hb hft (by omega)
  | some f =>
    rw [hx] at e0
    obtain rfl := getF_name hx
    rw [e0]
    exact append_some h (getF_mem hx) hy hsep hp hb hft
end Go.Proofs.Ytagchhcpmibelaa
