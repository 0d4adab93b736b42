/- match: what is below what, walked; the laws Order, Numbers. -/
import Derived.Test.YteihjdefdeckaaaGreatDoorMtJ
import Derived.Test.YteihjdefdeckaaaGreatDoorMtL
import Derived.Shelf.LaysC
import Derived.Shelf.Strconv.AtoiAll
namespace Go.Proofs.YteihjdefdeckaaaGreatDoor
open Go.Shelf Go.RowKit
set_option maxRecDepth 100000

def lay172_ren : Go.Shelf.Ren := ⟨fun | 172 => 84 | 244 => 99 | 245 => 100 | 247 => 110 | 279 => 111 | 280 => 112 | 281 => 113 | 282 => 114 | 287 => 121 | 316 => 122 | 171 => 124 | 205 => 123 | 321 => 127 | 322 => 128 | 243 => 129 | 246 => 130 | 283 => 131 | 284 => 132 | 285 => 133 | 286 => 134 | 129 => 136 | 317 => 135 | 318 => 137 | 319 => 138 | 320 => 139 | 337 => 140 | 338 => 141 | n => n, fun | 9 => 9 | 3 => 3 | 75 => 99 | 76 => 100 | 4 => 4 | 5 => 5 | 167 => 116 | 37 => 70 | 0 => 0 | 85 => 117 | 2 => 2 | 168 => 119 | 53 => 123 | 175 => 124 | 46 => 107 | 210 => 127 | 127 => 134 | 145 => 137 | 143 => 135 | 21 => 21 | 171 => 139 | 173 => 142 | 212 => 144 | 51 => 130 | 20 => 20 | 213 => 145 | 232 => 149 | 233 => 150 | 80 => 111 | n => n, fun | 15 => 1 | 16 => 2 | 17 => 3 | 18 => 4 | 19 => 5 | n => n⟩
theorem lay172 : Go.Proofs.LaysC.n172 Tryz.prog lay172_ren := {
  mixed := by kernel_rfl
  f129 := Tryz.func136.trans (congrArg some (by kernel_rfl))
  f171 := Tryz.func124.trans (congrArg some (by kernel_rfl))
  f172 := Tryz.func84.trans (congrArg some (by kernel_rfl))
  f205 := Tryz.func123.trans (congrArg some (by kernel_rfl))
  f243 := Tryz.func129.trans (congrArg some (by kernel_rfl))
  f244 := Tryz.func99.trans (congrArg some (by kernel_rfl))
  f245 := Tryz.func100.trans (congrArg some (by kernel_rfl))
  f246 := Tryz.func130.trans (congrArg some (by kernel_rfl))
  f247 := Tryz.func110.trans (congrArg some (by kernel_rfl))
  f279 := Tryz.func111.trans (congrArg some (by kernel_rfl))
  f280 := Tryz.func112.trans (congrArg some (by kernel_rfl))
  f281 := Tryz.func113.trans (congrArg some (by kernel_rfl))
  f282 := Tryz.func114.trans (congrArg some (by kernel_rfl))
  f283 := Tryz.func131.trans (congrArg some (by kernel_rfl))
  f284 := Tryz.func132.trans (congrArg some (by kernel_rfl))
  f285 := Tryz.func133.trans (congrArg some (by kernel_rfl))
  f286 := Tryz.func134.trans (congrArg some (by kernel_rfl))
  f287 := Tryz.func121.trans (congrArg some (by kernel_rfl))
  f316 := Tryz.func122.trans (congrArg some (by kernel_rfl))
  f317 := Tryz.func135.trans (congrArg some (by kernel_rfl))
  f318 := Tryz.func137.trans (congrArg some (by kernel_rfl))
  f319 := Tryz.func138.trans (congrArg some (by kernel_rfl))
  f320 := Tryz.func139.trans (congrArg some (by kernel_rfl))
  f321 := Tryz.func127.trans (congrArg some (by kernel_rfl))
  f322 := Tryz.func128.trans (congrArg some (by kernel_rfl))
  f337 := Tryz.func140.trans (congrArg some (by kernel_rfl))
  f338 := Tryz.func141.trans (congrArg some (by kernel_rfl))
  t0 := Tryz.underlying0
  a0 := Tryz.isAgg0
  z0 := Tryz.sizeOf0
  v0 := Tryz.zeroValue0
  t2 := Tryz.underlying2
  a2 := Tryz.isAgg2
  z2 := Tryz.sizeOf2
  v2 := Tryz.zeroValue2
  t3 := Tryz.underlying3
  a3 := Tryz.isAgg3
  z3 := Tryz.sizeOf3
  v3 := Tryz.zeroValue3
  t4 := Tryz.underlying4
  a4 := Tryz.isAgg4
  z4 := Tryz.sizeOf4
  v4 := Tryz.zeroValue4
  t5 := Tryz.underlying5
  a5 := Tryz.isAgg5
  z5 := Tryz.sizeOf5
  v5 := Tryz.zeroValue5
  t9 := Tryz.underlying9
  a9 := Tryz.isAgg9
  z9 := Tryz.sizeOf9
  v9 := Tryz.zeroValue9
  t20 := Tryz.underlying20
  a20 := Tryz.isAgg20
  z20 := Tryz.sizeOf20
  v20 := Tryz.zeroValue20
  t21 := Tryz.underlying21
  a21 := Tryz.isAgg21
  z21 := Tryz.sizeOf21
  v21 := Tryz.zeroValue21
  t37 := Tryz.underlying70
  a37 := Tryz.isAgg70
  z37 := Tryz.sizeOf70
  v37 := Tryz.zeroValue70
  t46 := Tryz.underlying107
  a46 := Tryz.isAgg107
  z46 := Tryz.sizeOf107
  v46 := Tryz.zeroValue107
  t51 := Tryz.underlying130
  a51 := Tryz.isAgg130
  z51 := Tryz.sizeOf130
  v51 := Tryz.zeroValue130
  t53 := Tryz.underlying123
  a53 := Tryz.isAgg123
  z53 := Tryz.sizeOf123
  v53 := Tryz.zeroValue123
  t75 := Tryz.underlying99
  a75 := Tryz.isAgg99
  z75 := Tryz.sizeOf99
  v75 := Tryz.zeroValue99
  t76 := Tryz.underlying100
  a76 := Tryz.isAgg100
  z76 := Tryz.sizeOf100
  v76 := Tryz.zeroValue100
  t85 := Tryz.underlying117
  a85 := Tryz.isAgg117
  z85 := Tryz.sizeOf117
  v85 := Tryz.zeroValue117
  t127 := Tryz.underlying134
  a127 := Tryz.isAgg134
  z127 := Tryz.sizeOf134
  v127 := Tryz.zeroValue134
  t143 := Tryz.underlying135
  a143 := Tryz.isAgg135
  z143 := Tryz.sizeOf135
  v143 := Tryz.zeroValue135
  t145 := Tryz.underlying137
  a145 := Tryz.isAgg137
  z145 := Tryz.sizeOf137
  v145 := Tryz.zeroValue137
  t167 := Tryz.underlying116
  a167 := Tryz.isAgg116
  z167 := Tryz.sizeOf116
  v167 := Tryz.zeroValue116
  t168 := Tryz.underlying119
  a168 := Tryz.isAgg119
  z168 := Tryz.sizeOf119
  v168 := Tryz.zeroValue119
  t171 := Tryz.underlying139
  a171 := Tryz.isAgg139
  z171 := Tryz.sizeOf139
  v171 := Tryz.zeroValue139
  t173 := Tryz.underlying142
  a173 := Tryz.isAgg142
  z173 := Tryz.sizeOf142
  v173 := Tryz.zeroValue142
  t175 := Tryz.underlying124
  a175 := Tryz.isAgg124
  z175 := Tryz.sizeOf124
  v175 := Tryz.zeroValue124
  t210 := Tryz.underlying127
  a210 := Tryz.isAgg127
  z210 := Tryz.sizeOf127
  v210 := Tryz.zeroValue127
  t212 := Tryz.underlying144
  a212 := Tryz.isAgg144
  z212 := Tryz.sizeOf144
  v212 := Tryz.zeroValue144
  t213 := Tryz.underlying145
  a213 := Tryz.isAgg145
  z213 := Tryz.sizeOf145
  t232 := Tryz.underlying149
  a232 := Tryz.isAgg149
  z232 := Tryz.sizeOf149
  v232 := Tryz.zeroValue149
  t233 := Tryz.underlying150
  a233 := Tryz.isAgg150
  z233 := Tryz.sizeOf150
  v233 := Tryz.zeroValue150
  g15 := by kernel_rfl
  g16 := by kernel_rfl
  g17 := by kernel_rfl
  g18 := by kernel_rfl
  g19 := by kernel_rfl
  t80 := Tryz.underlying111
  a80 := Tryz.isAgg111
  z80 := Tryz.sizeOf111
  v80 := Tryz.zeroValue111
  i0 := by kernel_rfl
  i2 := by kernel_rfl
  i3 := by kernel_rfl
  i4 := by kernel_rfl
  i5 := by kernel_rfl
  i9 := by kernel_rfl
  i20 := by kernel_rfl
  i21 := by kernel_rfl
  i37 := by kernel_rfl
  i46 := by kernel_rfl
  i51 := by kernel_rfl
  i53 := by kernel_rfl
  i75 := by kernel_rfl
  i76 := by kernel_rfl
  i80 := by kernel_rfl
  i85 := by kernel_rfl
  i127 := by kernel_rfl
  i143 := by kernel_rfl
  i145 := by kernel_rfl
  i167 := by kernel_rfl
  i168 := by kernel_rfl
  i171 := by kernel_rfl
  i173 := by kernel_rfl
  i175 := by kernel_rfl
  i210 := by kernel_rfl
  i212 := by kernel_rfl
  i232 := by kernel_rfl
  i233 := by kernel_rfl
  m15 := by kernel_rfl
  m16 := by kernel_rfl
  m17 := by kernel_rfl
  m18 := by kernel_rfl
  m19 := by kernel_rfl
  c0 := by kernel_rfl
  c2 := by kernel_rfl
  c3 := by kernel_rfl
  c4 := by kernel_rfl
  c5 := by kernel_rfl
  c9 := by kernel_rfl
  c20 := by kernel_rfl
  c21 := by kernel_rfl
  c37 := by kernel_rfl
  c46 := by kernel_rfl
  c51 := by kernel_rfl
  c53 := by kernel_rfl
  c75 := by kernel_rfl
  c76 := by kernel_rfl
  c80 := by kernel_rfl
  c85 := by kernel_rfl
  c127 := by kernel_rfl
  c143 := by kernel_rfl
  c145 := by kernel_rfl
  c167 := by kernel_rfl
  c168 := by kernel_rfl
  c171 := by kernel_rfl
  c173 := by kernel_rfl
  c175 := by kernel_rfl
  c210 := by kernel_rfl
  c212 := by kernel_rfl
  c213 := by kernel_rfl
  c232 := by kernel_rfl
  c233 := by kernel_rfl }

section
variable {w : World}
theorem bytes_ext (w : World) (e : TypeId) (t : ByteArray) : Ext w (Lib.bytesWorld w e t) := ⟨rfl, rfl, rfl, by rw [Lib.bytesWorld_size]; omega, fun k hk _ => Lib.bytesWorld_at_old w e t k hk⟩
theorem numV_bd {s : List UInt8} (h : isNum s = true) : -1000000000000000000 < numV s ∧ numV s < 1000000000000000000 := by
  have := numV_lt h
  unfold numV
  split <;> omega
theorem isNum_len {s : List UInt8} (h : isNum s = true) : s.length ≤ 19 := by
  have h1 := neg_len h
  have h2 := isNum_out h
  split at h1 <;> omega
set_option maxHeartbeats 4000000 in
theorem atoi_any (s : List UInt8) (h : isNum s = true) : Calls Tryz.prog 62 #[sv s] w fun e w' => e = .returned (.int .i64 (numV s)) ∧ Ext w w' := by
  have hl := isNum_len h
  have hc := Any.strconv_Atoi_ok lay172 ⟨s.toArray⟩ (by have : (⟨s.toArray⟩ : ByteArray).size = s.length := sv_size s; omega) (numV s) (atoi_num h) w
  generalize numV s = n at *
  clear h hl
  go_enter Tryz.func62, Tryz.ntmps62
  go_wp2_with fail
  refine hc.mono ?_
  rintro e w1 ⟨rfl, hw⟩
  have x1 : Ext w w1 := by
    rcases hw with rfl | ⟨t, rfl⟩
    · exact Mod.refl _ _
    · exact bytes_ext _ _ _
  clear hw hc
  go_wp2_with fail
  go_ret
  exact ⟨rfl, x1⟩
set_option maxHeartbeats 4000000 in
theorem less_any (k : Int) (a b : List UInt8) (ha : a.length ≤ 140737488351232) (hb : b.length ≤ 140737488351232) :
    Calls Tryz.prog 41 #[.int .i64 k, sv a, sv b] w fun e w' => e = .returned (.tuple #[.bool (lessM k a b).1, .bool (lessM k a b).2]) ∧ Ext w w' := by
  have hc := mnorm_any (w := w) k a ha
  have hc2 := fun w1 : World => mnorm_any (w := w1) k b hb
  by_cases hn : (normM k a).2 = false ∨ (normM k b).2 = false ∨ k = 3
  · rw [less_no hn]
    have hcase : ((normM k a).2 = false) ∨ ((normM k a).2 = true ∧ (normM k b).2 = false) ∨ ((normM k a).2 = true ∧ (normM k b).2 = true ∧ (k == 3) = true) := by
      cases e1 : (normM k a).2 with
      | false => exact .inl rfl
      | true =>
        cases e2 : (normM k b).2 with
        | false => exact .inr (.inl ⟨rfl, rfl⟩)
        | true =>
          rw [e1, e2] at hn
          exact .inr (.inr ⟨rfl, rfl, by rcases hn with h | h | h; (cases h); (cases h); (simpa using h)⟩)
    clear hn
    generalize normM k a = p at *
    generalize normM k b = q at *
    obtain ⟨x, ok⟩ := p
    obtain ⟨y, is⟩ := q
    simp only at hc hc2 hcase
    rcases hcase with rfl | ⟨rfl, rfl⟩ | ⟨rfl, rfl, k3⟩
    · cases is
      all_goals
        go_enter Tryz.func41, Tryz.ntmps41
        go_wp2_with fail
        refine hc.mono ?_
        rintro e w1 ⟨rfl, x1⟩
        clear hc
        go_wp2_with fail
        refine (hc2 w1).mono ?_
        rintro e w2 ⟨rfl, x2⟩
        clear hc2
        go_wp2_with fail
        go_ret2
        exact ⟨rfl, ext_trans x1 x2⟩
    all_goals
      go_enter Tryz.func41, Tryz.ntmps41
      go_wp2_with fail
      refine hc.mono ?_
      rintro e w1 ⟨rfl, x1⟩
      clear hc
      go_wp2_with fail
      refine (hc2 w1).mono ?_
      rintro e w2 ⟨rfl, x2⟩
      clear hc2
      go_wp2_with fail
      go_ret2
      exact ⟨rfl, ext_trans x1 x2⟩
  rw [less_yes hn]
  have h1 : (normM k a).2 = true := by cases e : (normM k a).2 with | true => rfl | false => exact absurd (.inl e) hn
  have h2 : (normM k b).2 = true := by cases e : (normM k b).2 with | true => rfl | false => exact absurd (.inr (.inl e)) hn
  have k3 : (k == 3) = false := by simpa using fun e => hn (.inr (.inr e))
  by_cases hk : k = 2
  · subst hk
    obtain ⟨e1, n1⟩ := normM_num h1
    obtain ⟨e2, n2⟩ := normM_num h2
    rw [e1] at hc
    rw [e2] at hc2
    rw [e1, e2, if_pos rfl]
    have hd1 := fun wx : World => atoi_any (w := wx) a n1
    have hd2 := fun wx : World => atoi_any (w := wx) b n2
    clear h1 h2 hn e1 e2 n1 n2
    generalize numV a = u at *
    generalize numV b = v at *
    simp only at hc hc2
    go_enter Tryz.func41, Tryz.ntmps41
    go_wp2_with fail
    refine hc.mono ?_
    rintro e w1 ⟨rfl, x1⟩
    clear hc
    go_wp2_with fail
    refine (hc2 w1).mono ?_
    rintro e w2 ⟨rfl, x2⟩
    clear hc2
    go_wp2_with fail
    refine (hd1 w2).mono ?_
    rintro e w3 ⟨rfl, x3⟩
    clear hd1
    go_wp2_with fail
    refine (hd2 w3).mono ?_
    rintro e w4 ⟨rfl, x4⟩
    clear hd2
    go_wp2_with fail
    go_ret2
    exact ⟨rfl, ext_trans x1 (ext_trans x2 (ext_trans x3 x4))⟩
  · rw [if_neg hk]
    have k2 : (k == 2) = false := by simpa using hk
    clear hn
    generalize normM k a = p at *
    generalize normM k b = q at *
    obtain ⟨x, ok⟩ := p
    obtain ⟨y, is⟩ := q
    simp only at hc hc2 h1 h2
    subst h1
    subst h2
    go_enter Tryz.func41, Tryz.ntmps41
    go_wp2_with fail
    refine hc.mono ?_
    rintro e w1 ⟨rfl, x1⟩
    clear hc
    go_wp2_with fail
    refine (hc2 w1).mono ?_
    rintro e w2 ⟨rfl, x2⟩
    clear hc2
    go_wp2_with fail
    go_ret2
    exact ⟨rfl, ext_trans x1 x2⟩
end
end Go.Proofs.YteihjdefdeckaaaGreatDoor
