/- match: what is below what, walked; the laws Order, Numbers. -/
import Derived.Test.YtgghjkefbfbopaaGreatDoorMtG
import Derived.Test.YtgghjkefbfbopaaGreatDoorMtL
import Derived.Shelf.LaysC
import Derived.Shelf.Strconv.AtoiAll
namespace Go.Proofs.YtgghjkefbfbopaaGreatDoor
open Go.Shelf Go.RowKit
set_option maxRecDepth 100000

def lay172_ren : Go.Shelf.Ren := ⟨fun | 172 => 21 | 244 => 39 | 245 => 40 | 247 => 56 | 279 => 57 | 280 => 58 | 281 => 59 | 282 => 60 | 287 => 72 | 316 => 73 | 171 => 75 | 205 => 74 | 321 => 83 | 322 => 84 | 243 => 85 | 246 => 88 | 283 => 89 | 284 => 90 | 285 => 91 | 286 => 92 | 129 => 94 | 317 => 93 | 318 => 95 | 319 => 96 | 320 => 97 | 337 => 98 | 338 => 99 | n => n, fun | 9 => 9 | 3 => 3 | 75 => 42 | 76 => 43 | 4 => 4 | 5 => 5 | 167 => 72 | 37 => 60 | 0 => 0 | 85 => 73 | 2 => 2 | 168 => 75 | 53 => 84 | 175 => 85 | 46 => 70 | 210 => 88 | 127 => 93 | 145 => 96 | 143 => 94 | 21 => 21 | 171 => 102 | 173 => 105 | 212 => 108 | 51 => 98 | 20 => 20 | 213 => 109 | 232 => 113 | 233 => 114 | 80 => 78 | n => n, fun | 15 => 0 | 16 => 1 | 17 => 3 | 18 => 4 | 19 => 5 | n => n⟩
theorem lay172 : Go.Proofs.LaysC.n172 Tryz.prog lay172_ren := {
  mixed := by kernel_rfl
  f129 := Tryz.func94.trans (congrArg some (by kernel_rfl))
  f171 := Tryz.func75.trans (congrArg some (by kernel_rfl))
  f172 := Tryz.func21.trans (congrArg some (by kernel_rfl))
  f205 := Tryz.func74.trans (congrArg some (by kernel_rfl))
  f243 := Tryz.func85.trans (congrArg some (by kernel_rfl))
  f244 := Tryz.func39.trans (congrArg some (by kernel_rfl))
  f245 := Tryz.func40.trans (congrArg some (by kernel_rfl))
  f246 := Tryz.func88.trans (congrArg some (by kernel_rfl))
  f247 := Tryz.func56.trans (congrArg some (by kernel_rfl))
  f279 := Tryz.func57.trans (congrArg some (by kernel_rfl))
  f280 := Tryz.func58.trans (congrArg some (by kernel_rfl))
  f281 := Tryz.func59.trans (congrArg some (by kernel_rfl))
  f282 := Tryz.func60.trans (congrArg some (by kernel_rfl))
  f283 := Tryz.func89.trans (congrArg some (by kernel_rfl))
  f284 := Tryz.func90.trans (congrArg some (by kernel_rfl))
  f285 := Tryz.func91.trans (congrArg some (by kernel_rfl))
  f286 := Tryz.func92.trans (congrArg some (by kernel_rfl))
  f287 := Tryz.func72.trans (congrArg some (by kernel_rfl))
  f316 := Tryz.func73.trans (congrArg some (by kernel_rfl))
  f317 := Tryz.func93.trans (congrArg some (by kernel_rfl))
  f318 := Tryz.func95.trans (congrArg some (by kernel_rfl))
  f319 := Tryz.func96.trans (congrArg some (by kernel_rfl))
  f320 := Tryz.func97.trans (congrArg some (by kernel_rfl))
  f321 := Tryz.func83.trans (congrArg some (by kernel_rfl))
  f322 := Tryz.func84.trans (congrArg some (by kernel_rfl))
  f337 := Tryz.func98.trans (congrArg some (by kernel_rfl))
  f338 := Tryz.func99.trans (congrArg some (by kernel_rfl))
  t0 := Tryz.underlying0
  a0 := Tryz.isAgg0
  z0 := Tryz.sizeOf0
  v0 := Tryz.zeroValue0
  t2 := Tryz.underlying2
  a2 := Tryz.isAgg2
  z2 := Tryz.sizeOf2
  v2 := Tryz.zeroValue2
  t3 := Tryz.underlying3
  a3 := Tryz.isAgg3
  z3 := Tryz.sizeOf3
  v3 := Tryz.zeroValue3
  t4 := Tryz.underlying4
  a4 := Tryz.isAgg4
  z4 := Tryz.sizeOf4
  v4 := Tryz.zeroValue4
  t5 := Tryz.underlying5
  a5 := Tryz.isAgg5
  z5 := Tryz.sizeOf5
  v5 := Tryz.zeroValue5
  t9 := Tryz.underlying9
  a9 := Tryz.isAgg9
  z9 := Tryz.sizeOf9
  v9 := Tryz.zeroValue9
  t20 := Tryz.underlying20
  a20 := Tryz.isAgg20
  z20 := Tryz.sizeOf20
  v20 := Tryz.zeroValue20
  t21 := Tryz.underlying21
  a21 := Tryz.isAgg21
  z21 := Tryz.sizeOf21
  v21 := Tryz.zeroValue21
  t37 := Tryz.underlying60
  a37 := Tryz.isAgg60
  z37 := Tryz.sizeOf60
  v37 := Tryz.zeroValue60
  t46 := Tryz.underlying70
  a46 := Tryz.isAgg70
  z46 := Tryz.sizeOf70
  v46 := Tryz.zeroValue70
  t51 := Tryz.underlying98
  a51 := Tryz.isAgg98
  z51 := Tryz.sizeOf98
  v51 := Tryz.zeroValue98
  t53 := Tryz.underlying84
  a53 := Tryz.isAgg84
  z53 := Tryz.sizeOf84
  v53 := Tryz.zeroValue84
  t75 := Tryz.underlying42
  a75 := Tryz.isAgg42
  z75 := Tryz.sizeOf42
  v75 := Tryz.zeroValue42
  t76 := Tryz.underlying43
  a76 := Tryz.isAgg43
  z76 := Tryz.sizeOf43
  v76 := Tryz.zeroValue43
  t85 := Tryz.underlying73
  a85 := Tryz.isAgg73
  z85 := Tryz.sizeOf73
  v85 := Tryz.zeroValue73
  t127 := Tryz.underlying93
  a127 := Tryz.isAgg93
  z127 := Tryz.sizeOf93
  v127 := Tryz.zeroValue93
  t143 := Tryz.underlying94
  a143 := Tryz.isAgg94
  z143 := Tryz.sizeOf94
  v143 := Tryz.zeroValue94
  t145 := Tryz.underlying96
  a145 := Tryz.isAgg96
  z145 := Tryz.sizeOf96
  v145 := Tryz.zeroValue96
  t167 := Tryz.underlying72
  a167 := Tryz.isAgg72
  z167 := Tryz.sizeOf72
  v167 := Tryz.zeroValue72
  t168 := Tryz.underlying75
  a168 := Tryz.isAgg75
  z168 := Tryz.sizeOf75
  v168 := Tryz.zeroValue75
  t171 := Tryz.underlying102
  a171 := Tryz.isAgg102
  z171 := Tryz.sizeOf102
  v171 := Tryz.zeroValue102
  t173 := Tryz.underlying105
  a173 := Tryz.isAgg105
  z173 := Tryz.sizeOf105
  v173 := Tryz.zeroValue105
  t175 := Tryz.underlying85
  a175 := Tryz.isAgg85
  z175 := Tryz.sizeOf85
  v175 := Tryz.zeroValue85
  t210 := Tryz.underlying88
  a210 := Tryz.isAgg88
  z210 := Tryz.sizeOf88
  v210 := Tryz.zeroValue88
  t212 := Tryz.underlying108
  a212 := Tryz.isAgg108
  z212 := Tryz.sizeOf108
  v212 := Tryz.zeroValue108
  t213 := Tryz.underlying109
  a213 := Tryz.isAgg109
  z213 := Tryz.sizeOf109
  t232 := Tryz.underlying113
  a232 := Tryz.isAgg113
  z232 := Tryz.sizeOf113
  v232 := Tryz.zeroValue113
  t233 := Tryz.underlying114
  a233 := Tryz.isAgg114
  z233 := Tryz.sizeOf114
  v233 := Tryz.zeroValue114
  g15 := by kernel_rfl
  g16 := by kernel_rfl
  g17 := by kernel_rfl
  g18 := by kernel_rfl
  g19 := by kernel_rfl
  t80 := Tryz.underlying78
  a80 := Tryz.isAgg78
  z80 := Tryz.sizeOf78
  v80 := Tryz.zeroValue78
  i0 := by kernel_rfl
  i2 := by kernel_rfl
  i3 := by kernel_rfl
  i4 := by kernel_rfl
  i5 := by kernel_rfl
  i9 := by kernel_rfl
  i20 := by kernel_rfl
  i21 := by kernel_rfl
  i37 := by kernel_rfl
  i46 := by kernel_rfl
  i51 := by kernel_rfl
  i53 := by kernel_rfl
  i75 := by kernel_rfl
  i76 := by kernel_rfl
  i80 := by kernel_rfl
  i85 := by kernel_rfl
  i127 := by kernel_rfl
  i143 := by kernel_rfl
  i145 := by kernel_rfl
  i167 := by kernel_rfl
  i168 := by kernel_rfl
  i171 := by kernel_rfl
  i173 := by kernel_rfl
  i175 := by kernel_rfl
  i210 := by kernel_rfl
  i212 := by kernel_rfl
  i232 := by kernel_rfl
  i233 := by kernel_rfl
  m15 := by kernel_rfl
  m16 := by kernel_rfl
  m17 := by kernel_rfl
  m18 := by kernel_rfl
  m19 := by kernel_rfl
  c0 := by kernel_rfl
  c2 := by kernel_rfl
  c3 := by kernel_rfl
  c4 := by kernel_rfl
  c5 := by kernel_rfl
  c9 := by kernel_rfl
  c20 := by kernel_rfl
  c21 := by kernel_rfl
  c37 := by kernel_rfl
  c46 := by kernel_rfl
  c51 := by kernel_rfl
  c53 := by kernel_rfl
  c75 := by kernel_rfl
  c76 := by kernel_rfl
  c80 := by kernel_rfl
  c85 := by kernel_rfl
  c127 := by kernel_rfl
  c143 := by kernel_rfl
  c145 := by kernel_rfl
  c167 := by kernel_rfl
  c168 := by kernel_rfl
  c171 := by kernel_rfl
  c173 := by kernel_rfl
  c175 := by kernel_rfl
  c210 := by kernel_rfl
  c212 := by kernel_rfl
  c213 := by kernel_rfl
  c232 := by kernel_rfl
  c233 := by kernel_rfl }

section
variable {w : World}
theorem bytes_ext (w : World) (e : TypeId) (t : ByteArray) : Ext w (Lib.bytesWorld w e t) := ⟨rfl, rfl, rfl, by rw [Lib.bytesWorld_size]; omega, fun k hk _ => Lib.bytesWorld_at_old w e t k hk⟩
theorem numV_bd {s : List UInt8} (h : isNum s = true) : -1000000000000000000 < numV s ∧ numV s < 1000000000000000000 := by
  have := numV_lt h
  unfold numV
  split <;> omega
theorem isNum_len {s : List UInt8} (h : isNum s = true) : s.length ≤ 19 := by
  have h1 := neg_len h
  have h2 := isNum_out h
  split at h1 <;> omega
set_option maxHeartbeats 4000000 in
theorem atoi_any (s : List UInt8) (h : isNum s = true) : Calls Tryz.prog 11 #[sv s] w fun e w' => e = .returned (.int .i64 (numV s)) ∧ Ext w w' := by
  have hl := isNum_len h
  have hc := Any.strconv_Atoi_ok lay172 ⟨s.toArray⟩ (by have : (⟨s.toArray⟩ : ByteArray).size = s.length := sv_size s; omega) (numV s) (atoi_num h) w
  generalize numV s = n at *
  clear h hl
  go_enter Tryz.func11, Tryz.ntmps11
  go_wp2_with fail
  refine hc.mono ?_
  rintro e w1 ⟨rfl, hw⟩
  have x1 : Ext w w1 := by
    rcases hw with rfl | ⟨t, rfl⟩
    · exact Mod.refl _ _
    · exact bytes_ext _ _ _
  clear hw hc
  go_wp2_with fail
  go_ret
  exact ⟨rfl, x1⟩
set_option maxHeartbeats 4000000 in
theorem less_any (k : Int) (a b : List UInt8) (ha : a.length ≤ 140737488351232) (hb : b.length ≤ 140737488351232) :
    Calls Tryz.prog 5 #[.int .i64 k, sv a, sv b] w fun e w' => e = .returned (.tuple #[.bool (lessM k a b).1, .bool (lessM k a b).2]) ∧ Ext w w' := by
  have hc := mnorm_any (w := w) k a ha
  have hc2 := fun w1 : World => mnorm_any (w := w1) k b hb
  by_cases hn : (normM k a).2 = false ∨ (normM k b).2 = false ∨ k = 3
  · rw [less_no hn]
    have hcase : ((normM k a).2 = false) ∨ ((normM k a).2 = true ∧ (normM k b).2 = false) ∨ ((normM k a).2 = true ∧ (normM k b).2 = true ∧ (k == 3) = true) := by
      cases e1 : (normM k a).2 with
      | false => exact .inl rfl
      | true =>
        cases e2 : (normM k b).2 with
        | false => exact .inr (.inl ⟨rfl, rfl⟩)
        | true =>
          rw [e1, e2] at hn
          exact .inr (.inr ⟨rfl, rfl, by rcases hn with h | h | h; (cases h); (cases h); (simpa using h)⟩)
    clear hn
    generalize normM k a = p at *
    generalize normM k b = q at *
    obtain ⟨x, ok⟩ := p
    obtain ⟨y, is⟩ := q
    simp only at hc hc2 hcase
    rcases hcase with rfl | ⟨rfl, rfl⟩ | ⟨rfl, rfl, k3⟩
    · cases is
      all_goals
        go_enter Tryz.func5, Tryz.ntmps5
        go_wp2_with fail
        refine hc.mono ?_
        rintro e w1 ⟨rfl, x1⟩
        clear hc
        go_wp2_with fail
        refine (hc2 w1).mono ?_
        rintro e w2 ⟨rfl, x2⟩
        clear hc2
        go_wp2_with fail
        go_ret2
        exact ⟨rfl, ext_trans x1 x2⟩
    all_goals
      go_enter Tryz.func5, Tryz.ntmps5
      go_wp2_with fail
      refine hc.mono ?_
      rintro e w1 ⟨rfl, x1⟩
      clear hc
      go_wp2_with fail
      refine (hc2 w1).mono ?_
      rintro e w2 ⟨rfl, x2⟩
      clear hc2
      go_wp2_with fail
      go_ret2
      exact ⟨rfl, ext_trans x1 x2⟩
  rw [less_yes hn]
  have h1 : (normM k a).2 = true := by cases e : (normM k a).2 with | true => rfl | false => exact absurd (.inl e) hn
  have h2 : (normM k b).2 = true := by cases e : (normM k b).2 with | true => rfl | false => exact absurd (.inr (.inl e)) hn
  have k3 : (k == 3) = false := by simpa using fun e => hn (.inr (.inr e))
  by_cases hk : k = 2
  · subst hk
    obtain ⟨e1, n1⟩ := normM_num h1
    obtain ⟨e2, n2⟩ := normM_num h2
    rw [e1] at hc
    rw [e2] at hc2
    rw [e1, e2, if_pos rfl]
    have hd1 := fun wx : World => atoi_any (w := wx) a n1
    have hd2 := fun wx : World => atoi_any (w := wx) b n2
    clear h1 h2 hn e1 e2 n1 n2
    generalize numV a = u at *
    generalize numV b = v at *
    simp only at hc hc2
    go_enter Tryz.func5, Tryz.ntmps5
    go_wp2_with fail
    refine hc.mono ?_
    rintro e w1 ⟨rfl, x1⟩
    clear hc
    go_wp2_with fail
    refine (hc2 w1).mono ?_
    rintro e w2 ⟨rfl, x2⟩
    clear hc2
    go_wp2_with fail
    refine (hd1 w2).mono ?_
    rintro e w3 ⟨rfl, x3⟩
    clear hd1
    go_wp2_with fail
    refine (hd2 w3).mono ?_
    rintro e w4 ⟨rfl, x4⟩
    clear hd2
    go_wp2_with fail
    go_ret2
    exact ⟨rfl, ext_trans x1 (ext_trans x2 (ext_trans x3 x4))⟩
  · rw [if_neg hk]
    have k2 : (k == 2) = false := by simpa using hk
    clear hn
    generalize normM k a = p at *
    generalize normM k b = q at *
    obtain ⟨x, ok⟩ := p
    obtain ⟨y, is⟩ := q
    simp only at hc hc2 h1 h2
    subst h1
    subst h2
    go_enter Tryz.func5, Tryz.ntmps5
    go_wp2_with fail
    refine hc.mono ?_
    rintro e w1 ⟨rfl, x1⟩
    clear hc
    go_wp2_with fail
    refine (hc2 w1).mono ?_
    rintro e w2 ⟨rfl, x2⟩
    clear hc2
    go_wp2_with fail
    go_ret2
    exact ⟨rfl, ext_trans x1 x2⟩
end
end Go.Proofs.YtgghjkefbfbopaaGreatDoor
