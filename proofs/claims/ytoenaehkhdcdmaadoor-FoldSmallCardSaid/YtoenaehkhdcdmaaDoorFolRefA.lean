/-
  The reference: the letters of two bytes.
-/
import Derived.Test.YtoenaehkhdcdmaaDoorFolJoin
namespace Go.Proofs.YtoenaehkhdcdmaaDoor
open Go.RowKit
set_option linter.unusedVariables false
set_option linter.unusedSimpArgs false

def twoAt (l : List UInt8) (i : Nat) : List UInt8 := if i + 1 < l.length then Fo.two (l.getD i 0).toNat (l.getD (i + 1) 0).toNat else []
set_option maxRecDepth 100000 in
set_option maxHeartbeats 16000000 in
theorem two195_0 (s : ByteArray) (i : Nat) (w : World) (hs : s.size ≤ 100000000) (hi : i < s.size) (h1 : i + 1 < s.size) (c d : UInt8) (hc : s[i]'hi = c) (hd : s[i + 1]'h1 = d) (hcc : c.toNat = 195) (h0 : 128 ≤ d.toNat) (h9 : d.toNat ≤ 143) :
    Calls Tryd.prog 51 #[.string s, .int .i64 i] w fun e w' => e = .returned (.string ⟨(Fo.two 195 d.toNat).toArray⟩) ∧ w = w' := by
  have hii : (i : Int) < s.size := by omega
  have h1i : (i : Int) + 1 < s.size := by omega
  obtain ⟨R, hR⟩ : ∃ R, Fo.two 195 d.toNat = R := ⟨_, rfl⟩
  have HR := Lib.hid hR
  rw [hR]
  clear hR
  rcases (show d.toNat = 128 ∨ d.toNat = 129 ∨ d.toNat = 130 ∨ d.toNat = 131 ∨ d.toNat = 132 ∨ d.toNat = 133 ∨ d.toNat = 134 ∨ d.toNat = 135 ∨ d.toNat = 136 ∨ d.toNat = 137 ∨ d.toNat = 138 ∨ d.toNat = 139 ∨ d.toNat = 140 ∨ d.toNat = 141 ∨ d.toNat = 142 ∨ d.toNat = 143 by omega) with h | h | h | h | h | h | h | h | h | h | h | h | h | h | h | h
  all_goals
    clear h0 h9
    go_enter Tryd.func51, Tryd.ntmps51
    go_wp2
    go_ret
    exact ⟨by rw [← HR.out, h]; rfl, rfl⟩
set_option maxRecDepth 100000 in
set_option maxHeartbeats 16000000 in
theorem two195_1 (s : ByteArray) (i : Nat) (w : World) (hs : s.size ≤ 100000000) (hi : i < s.size) (h1 : i + 1 < s.size) (c d : UInt8) (hc : s[i]'hi = c) (hd : s[i + 1]'h1 = d) (hcc : c.toNat = 195) (h0 : 144 ≤ d.toNat) (h9 : d.toNat ≤ 159) :
    Calls Tryd.prog 51 #[.string s, .int .i64 i] w fun e w' => e = .returned (.string ⟨(Fo.two 195 d.toNat).toArray⟩) ∧ w = w' := by
  have hii : (i : Int) < s.size := by omega
  have h1i : (i : Int) + 1 < s.size := by omega
  obtain ⟨R, hR⟩ : ∃ R, Fo.two 195 d.toNat = R := ⟨_, rfl⟩
  have HR := Lib.hid hR
  rw [hR]
  clear hR
  rcases (show d.toNat = 144 ∨ d.toNat = 145 ∨ d.toNat = 146 ∨ d.toNat = 147 ∨ d.toNat = 148 ∨ d.toNat = 149 ∨ d.toNat = 150 ∨ d.toNat = 151 ∨ d.toNat = 152 ∨ d.toNat = 153 ∨ d.toNat = 154 ∨ d.toNat = 155 ∨ d.toNat = 156 ∨ d.toNat = 157 ∨ d.toNat = 158 ∨ d.toNat = 159 by omega) with h | h | h | h | h | h | h | h | h | h | h | h | h | h | h | h
  all_goals
    clear h0 h9
    go_enter Tryd.func51, Tryd.ntmps51
    go_wp2
    go_ret
    exact ⟨by rw [← HR.out, h]; rfl, rfl⟩
set_option maxRecDepth 100000 in
set_option maxHeartbeats 16000000 in
theorem two195_2 (s : ByteArray) (i : Nat) (w : World) (hs : s.size ≤ 100000000) (hi : i < s.size) (h1 : i + 1 < s.size) (c d : UInt8) (hc : s[i]'hi = c) (hd : s[i + 1]'h1 = d) (hcc : c.toNat = 195) (h0 : 160 ≤ d.toNat) (h9 : d.toNat ≤ 175) :
    Calls Tryd.prog 51 #[.string s, .int .i64 i] w fun e w' => e = .returned (.string ⟨(Fo.two 195 d.toNat).toArray⟩) ∧ w = w' := by
  have hii : (i : Int) < s.size := by omega
  have h1i : (i : Int) + 1 < s.size := by omega
  obtain ⟨R, hR⟩ : ∃ R, Fo.two 195 d.toNat = R := ⟨_, rfl⟩
  have HR := Lib.hid hR
  rw [hR]
  clear hR
  rcases (show d.toNat = 160 ∨ d.toNat = 161 ∨ d.toNat = 162 ∨ d.toNat = 163 ∨ d.toNat = 164 ∨ d.toNat = 165 ∨ d.toNat = 166 ∨ d.toNat = 167 ∨ d.toNat = 168 ∨ d.toNat = 169 ∨ d.toNat = 170 ∨ d.toNat = 171 ∨ d.toNat = 172 ∨ d.toNat = 173 ∨ d.toNat = 174 ∨ d.toNat = 175 by omega) with h | h | h | h | h | h | h | h | h | h | h | h | h | h | h | h
  all_goals
    clear h0 h9
    go_enter Tryd.func51, Tryd.ntmps51
    go_wp2
    go_ret
    exact ⟨by rw [← HR.out, h]; rfl, rfl⟩
set_option maxRecDepth 100000 in
set_option maxHeartbeats 16000000 in
theorem two195_3 (s : ByteArray) (i : Nat) (w : World) (hs : s.size ≤ 100000000) (hi : i < s.size) (h1 : i + 1 < s.size) (c d : UInt8) (hc : s[i]'hi = c) (hd : s[i + 1]'h1 = d) (hcc : c.toNat = 195) (h0 : 176 ≤ d.toNat) (h9 : d.toNat ≤ 191) :
    Calls Tryd.prog 51 #[.string s, .int .i64 i] w fun e w' => e = .returned (.string ⟨(Fo.two 195 d.toNat).toArray⟩) ∧ w = w' := by
  have hii : (i : Int) < s.size := by omega
  have h1i : (i : Int) + 1 < s.size := by omega
  obtain ⟨R, hR⟩ : ∃ R, Fo.two 195 d.toNat = R := ⟨_, rfl⟩
  have HR := Lib.hid hR
  rw [hR]
  clear hR
  rcases (show d.toNat = 176 ∨ d.toNat = 177 ∨ d.toNat = 178 ∨ d.toNat = 179 ∨ d.toNat = 180 ∨ d.toNat = 181 ∨ d.toNat = 182 ∨ d.toNat = 183 ∨ d.toNat = 184 ∨ d.toNat = 185 ∨ d.toNat = 186 ∨ d.toNat = 187 ∨ d.toNat = 188 ∨ d.toNat = 189 ∨ d.toNat = 190 ∨ d.toNat = 191 by omega) with h | h | h | h | h | h | h | h | h | h | h | h | h | h | h | h
  all_goals
    clear h0 h9
    go_enter Tryd.func51, Tryd.ntmps51
    go_wp2
    go_ret
    exact ⟨by rw [← HR.out, h]; rfl, rfl⟩
set_option maxRecDepth 100000 in
set_option maxHeartbeats 16000000 in
theorem two_any (s : ByteArray) (i : Nat) (w : World) (hs : s.size ≤ 100000000) (hi : i < s.size) :
    Calls Tryd.prog 51 #[.string s, .int .i64 i] w fun e w' => e = .returned (.string ⟨(twoAt s.data.toList i).toArray⟩) ∧ w = w' := by
  have hii : (i : Int) < s.size := by omega
  unfold twoAt
  rw [show s.data.toList.length = s.size by simp]
  by_cases h1 : i + 1 < s.size
  · have h1i : (i : Int) + 1 < s.size := by omega
    rw [if_pos h1, getD_at s i hi, getD_at s (i + 1) h1]
    obtain ⟨c, hc⟩ : ∃ c, s[i]'hi = c := ⟨_, rfl⟩
    obtain ⟨d, hd⟩ : ∃ d, s[i + 1]'h1 = d := ⟨_, rfl⟩
    have hd8 := UInt8.toNat_lt d
    rw [hc, hd]
    by_cases hcc : c.toNat = 195
    · rw [hcc]
      rcases (show d.toNat < 128 ∨ 191 < d.toNat ∨ (128 ≤ d.toNat ∧ d.toNat ≤ 143) ∨ (144 ≤ d.toNat ∧ d.toNat ≤ 159) ∨ (160 ≤ d.toNat ∧ d.toNat ≤ 175) ∨ (176 ≤ d.toNat ∧ d.toNat ≤ 191) by omega) with h | h | ⟨g1, g2⟩ | ⟨g1, g2⟩ | ⟨g1, g2⟩ | ⟨g1, g2⟩
      · have e : Fo.two 195 d.toNat = [] := by unfold Fo.two; rw [if_pos rfl, if_neg (by omega)]
        rw [e]
        go_enter Tryd.func51, Tryd.ntmps51
        go_wp2
        go_ret
        exact ⟨rfl, rfl⟩
      · have e : Fo.two 195 d.toNat = [] := by
          unfold Fo.two
          rw [if_pos rfl, if_pos (by omega), List.getD_eq_getElem?_getD, List.getElem?_eq_none (by simp [Fo.tab]; omega)]; rfl
        rw [e]
        go_enter Tryd.func51, Tryd.ntmps51
        go_wp2
        go_ret
        exact ⟨rfl, rfl⟩
      · exact two195_0 s i w hs hi h1 c d hc hd hcc g1 g2
      · exact two195_1 s i w hs hi h1 c d hc hd hcc g1 g2
      · exact two195_2 s i w hs hi h1 c d hc hd hcc g1 g2
      · exact two195_3 s i w hs hi h1 c d hc hd hcc g1 g2
    · by_cases h7 : c.toNat = 197
      · obtain ⟨R, hR⟩ : ∃ R, Fo.two c.toNat d.toNat = R := ⟨_, rfl⟩
        have HR := Lib.hid hR
        rw [hR]
        clear hR
        rcases (show d.toNat = 146 ∨ d.toNat = 147 ∨ d.toNat = 160 ∨ d.toNat = 161 ∨ d.toNat = 189 ∨ d.toNat = 190 ∨ (d.toNat ≠ 146 ∧ d.toNat ≠ 147 ∧ d.toNat ≠ 160 ∧ d.toNat ≠ 161 ∧ d.toNat ≠ 189 ∧ d.toNat ≠ 190) by omega) with h | h | h | h | h | h | h
        iterate 6
          · go_enter Tryd.func51, Tryd.ntmps51
            go_wp2
            go_ret
            exact ⟨by rw [← HR.out, h, h7]; rfl, rfl⟩
        · obtain ⟨g1, g2, g3, g4, g5, g6⟩ := h
          have e : R = [] := by
            rw [← HR.out, h7]
            unfold Fo.two
            rw [if_neg (by omega), if_pos rfl, if_neg (by omega), if_neg (by omega), if_neg (by omega)]
          have HE := Lib.hid e
          clear e
          have f1 : ((d.toNat : Int) == 146) = false := by rw [beq_eq_false_iff_ne]; omega
          have f2 : ((d.toNat : Int) == 147) = false := by rw [beq_eq_false_iff_ne]; omega
          have f3 : ((d.toNat : Int) == 160) = false := by rw [beq_eq_false_iff_ne]; omega
          have f4 : ((d.toNat : Int) == 161) = false := by rw [beq_eq_false_iff_ne]; omega
          have f5 : ((d.toNat : Int) == 189) = false := by rw [beq_eq_false_iff_ne]; omega
          have f6 : ((d.toNat : Int) == 190) = false := by rw [beq_eq_false_iff_ne]; omega
          go_enter Tryd.func51, Tryd.ntmps51
          go_wp2
          go_ret
          exact ⟨by rw [HE.out]; rfl, rfl⟩
      · have e : Fo.two c.toNat d.toNat = [] := by unfold Fo.two; rw [if_neg hcc, if_neg h7]
        rw [e]
        go_enter Tryd.func51, Tryd.ntmps51
        go_wp2
        go_ret
        exact ⟨rfl, rfl⟩
  · rw [if_neg h1]
    have h1i : ¬ (i : Int) + 1 < s.size := by omega
    go_enter Tryd.func51, Tryd.ntmps51
    go_wp2
    go_ret
    exact ⟨rfl, rfl⟩
end Go.Proofs.YtoenaehkhdcdmaaDoor
