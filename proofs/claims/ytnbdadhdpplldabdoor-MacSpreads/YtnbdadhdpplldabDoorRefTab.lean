/- The roots that the document's answer finds are the numbers of the plain mathematics: by the kernel's own reckoning, root by root. -/
import Derived.Test.YtnbdadhdpplldabDoorRef
namespace Go.Proofs.YtnbdadhdpplldabDoor
namespace Rf
theorem row_take {cube : Bool} {c f p x : Nat} {l : List Nat} (q : Nat) (hq : p + 1 = q) (hp : prime p = true) (hr : root p cube = x) (h : rowTo cube c f q = l) : rowTo cube (c + 1) (f + 1) p = x :: l := by
  subst hq
  subst h
  simp [rowTo, hp, hr]
theorem row_skip {cube : Bool} {c f p : Nat} {l : List Nat} (q : Nat) (hq : p + 1 = q) (hp : prime p = false) (h : rowTo cube (c + 1) f q = l) : rowTo cube (c + 1) (f + 1) p = l := by
  subst hq
  subst h
  simp [rowTo, hp]
theorem square2 : root 2 false = 0x6a09e667 := by decide +kernel
theorem square3 : root 3 false = 0xbb67ae85 := by decide +kernel
theorem square5 : root 5 false = 0x3c6ef372 := by decide +kernel
theorem square7 : root 7 false = 0xa54ff53a := by decide +kernel
theorem square11 : root 11 false = 0x510e527f := by decide +kernel
theorem square13 : root 13 false = 0x9b05688c := by decide +kernel
theorem square17 : root 17 false = 0x1f83d9ab := by decide +kernel
theorem square19 : root 19 false = 0x5be0cd19 := by decide +kernel
theorem cube2 : root 2 true = 0x428a2f98 := by decide +kernel
theorem cube3 : root 3 true = 0x71374491 := by decide +kernel
theorem cube5 : root 5 true = 0xb5c0fbcf := by decide +kernel
theorem cube7 : root 7 true = 0xe9b5dba5 := by decide +kernel
theorem cube11 : root 11 true = 0x3956c25b := by decide +kernel
theorem cube13 : root 13 true = 0x59f111f1 := by decide +kernel
theorem cube17 : root 17 true = 0x923f82a4 := by decide +kernel
theorem cube19 : root 19 true = 0xab1c5ed5 := by decide +kernel
theorem cube23 : root 23 true = 0xd807aa98 := by decide +kernel
theorem cube29 : root 29 true = 0x12835b01 := by decide +kernel
theorem cube31 : root 31 true = 0x243185be := by decide +kernel
theorem cube37 : root 37 true = 0x550c7dc3 := by decide +kernel
theorem cube41 : root 41 true = 0x72be5d74 := by decide +kernel
theorem cube43 : root 43 true = 0x80deb1fe := by decide +kernel
theorem cube47 : root 47 true = 0x9bdc06a7 := by decide +kernel
theorem cube53 : root 53 true = 0xc19bf174 := by decide +kernel
theorem cube59 : root 59 true = 0xe49b69c1 := by decide +kernel
theorem cube61 : root 61 true = 0xefbe4786 := by decide +kernel
theorem cube67 : root 67 true = 0x0fc19dc6 := by decide +kernel
theorem cube71 : root 71 true = 0x240ca1cc := by decide +kernel
theorem cube73 : root 73 true = 0x2de92c6f := by decide +kernel
theorem cube79 : root 79 true = 0x4a7484aa := by decide +kernel
theorem cube83 : root 83 true = 0x5cb0a9dc := by decide +kernel
theorem cube89 : root 89 true = 0x76f988da := by decide +kernel
theorem cube97 : root 97 true = 0x983e5152 := by decide +kernel
theorem cube101 : root 101 true = 0xa831c66d := by decide +kernel
theorem cube103 : root 103 true = 0xb00327c8 := by decide +kernel
theorem cube107 : root 107 true = 0xbf597fc7 := by decide +kernel
theorem cube109 : root 109 true = 0xc6e00bf3 := by decide +kernel
theorem cube113 : root 113 true = 0xd5a79147 := by decide +kernel
theorem cube127 : root 127 true = 0x06ca6351 := by decide +kernel
theorem cube131 : root 131 true = 0x14292967 := by decide +kernel
theorem cube137 : root 137 true = 0x27b70a85 := by decide +kernel
theorem cube139 : root 139 true = 0x2e1b2138 := by decide +kernel
theorem cube149 : root 149 true = 0x4d2c6dfc := by decide +kernel
theorem cube151 : root 151 true = 0x53380d13 := by decide +kernel
theorem cube157 : root 157 true = 0x650a7354 := by decide +kernel
theorem cube163 : root 163 true = 0x766a0abb := by decide +kernel
theorem cube167 : root 167 true = 0x81c2c92e := by decide +kernel
theorem cube173 : root 173 true = 0x92722c85 := by decide +kernel
theorem cube179 : root 179 true = 0xa2bfe8a1 := by decide +kernel
theorem cube181 : root 181 true = 0xa81a664b := by decide +kernel
theorem cube191 : root 191 true = 0xc24b8b70 := by decide +kernel
theorem cube193 : root 193 true = 0xc76c51a3 := by decide +kernel
theorem cube197 : root 197 true = 0xd192e819 := by decide +kernel
theorem cube199 : root 199 true = 0xd6990624 := by decide +kernel
theorem cube211 : root 211 true = 0xf40e3585 := by decide +kernel
theorem cube223 : root 223 true = 0x106aa070 := by decide +kernel
theorem cube227 : root 227 true = 0x19a4c116 := by decide +kernel
theorem cube229 : root 229 true = 0x1e376c08 := by decide +kernel
theorem cube233 : root 233 true = 0x2748774c := by decide +kernel
theorem cube239 : root 239 true = 0x34b0bcb5 := by decide +kernel
theorem cube241 : root 241 true = 0x391c0cb3 := by decide +kernel
theorem cube251 : root 251 true = 0x4ed8aa4a := by decide +kernel
theorem cube257 : root 257 true = 0x5b9cca4f := by decide +kernel
theorem cube263 : root 263 true = 0x682e6ff3 := by decide +kernel
theorem cube269 : root 269 true = 0x748f82ee := by decide +kernel
theorem cube271 : root 271 true = 0x78a5636f := by decide +kernel
theorem cube277 : root 277 true = 0x84c87814 := by decide +kernel
theorem cube281 : root 281 true = 0x8cc70208 := by decide +kernel
theorem cube283 : root 283 true = 0x90befffa := by decide +kernel
theorem cube293 : root 293 true = 0xa4506ceb := by decide +kernel
theorem cube307 : root 307 true = 0xbef9a3f7 := by decide +kernel
theorem cube311 : root 311 true = 0xc67178f2 := by decide +kernel
theorem row8 : rowTo false 8 398 2 = [0x6a09e667, 0xbb67ae85, 0x3c6ef372, 0xa54ff53a, 0x510e527f, 0x9b05688c, 0x1f83d9ab, 0x5be0cd19] := by
  refine row_take 3 rfl (by decide +kernel) square2 ?_
  refine row_take 4 rfl (by decide +kernel) square3 ?_
  refine row_skip 5 rfl (by decide +kernel) ?_
  refine row_take 6 rfl (by decide +kernel) square5 ?_
  refine row_skip 7 rfl (by decide +kernel) ?_
  refine row_take 8 rfl (by decide +kernel) square7 ?_
  refine row_skip 9 rfl (by decide +kernel) ?_
  refine row_skip 10 rfl (by decide +kernel) ?_
  refine row_skip 11 rfl (by decide +kernel) ?_
  refine row_take 12 rfl (by decide +kernel) square11 ?_
  refine row_skip 13 rfl (by decide +kernel) ?_
  refine row_take 14 rfl (by decide +kernel) square13 ?_
  refine row_skip 15 rfl (by decide +kernel) ?_
  refine row_skip 16 rfl (by decide +kernel) ?_
  refine row_skip 17 rfl (by decide +kernel) ?_
  refine row_take 18 rfl (by decide +kernel) square17 ?_
  refine row_skip 19 rfl (by decide +kernel) ?_
  refine row_take 20 rfl (by decide +kernel) square19 ?_
  rfl
theorem row64 : rowTo true 64 398 2 = [0x428a2f98, 0x71374491, 0xb5c0fbcf, 0xe9b5dba5, 0x3956c25b, 0x59f111f1, 0x923f82a4, 0xab1c5ed5, 0xd807aa98, 0x12835b01, 0x243185be, 0x550c7dc3, 0x72be5d74, 0x80deb1fe, 0x9bdc06a7, 0xc19bf174, 0xe49b69c1, 0xefbe4786, 0x0fc19dc6, 0x240ca1cc, 0x2de92c6f, 0x4a7484aa, 0x5cb0a9dc, 0x76f988da, 0x983e5152, 0xa831c66d, 0xb00327c8, 0xbf597fc7, 0xc6e00bf3, 0xd5a79147, 0x06ca6351, 0x14292967, 0x27b70a85, 0x2e1b2138, 0x4d2c6dfc, 0x53380d13, 0x650a7354, 0x766a0abb, 0x81c2c92e, 0x92722c85, 0xa2bfe8a1, 0xa81a664b, 0xc24b8b70, 0xc76c51a3, 0xd192e819, 0xd6990624, 0xf40e3585, 0x106aa070, 0x19a4c116, 0x1e376c08, 0x2748774c, 0x34b0bcb5, 0x391c0cb3, 0x4ed8aa4a, 0x5b9cca4f, 0x682e6ff3, 0x748f82ee, 0x78a5636f, 0x84c87814, 0x8cc70208, 0x90befffa, 0xa4506ceb, 0xbef9a3f7, 0xc67178f2] := by
  refine row_take 3 rfl (by decide +kernel) cube2 ?_
  refine row_take 4 rfl (by decide +kernel) cube3 ?_
  refine row_skip 5 rfl (by decide +kernel) ?_
  refine row_take 6 rfl (by decide +kernel) cube5 ?_
  refine row_skip 7 rfl (by decide +kernel) ?_
  refine row_take 8 rfl (by decide +kernel) cube7 ?_
  refine row_skip 9 rfl (by decide +kernel) ?_
  refine row_skip 10 rfl (by decide +kernel) ?_
  refine row_skip 11 rfl (by decide +kernel) ?_
  refine row_take 12 rfl (by decide +kernel) cube11 ?_
  refine row_skip 13 rfl (by decide +kernel) ?_
  refine row_take 14 rfl (by decide +kernel) cube13 ?_
  refine row_skip 15 rfl (by decide +kernel) ?_
  refine row_skip 16 rfl (by decide +kernel) ?_
  refine row_skip 17 rfl (by decide +kernel) ?_
  refine row_take 18 rfl (by decide +kernel) cube17 ?_
  refine row_skip 19 rfl (by decide +kernel) ?_
  refine row_take 20 rfl (by decide +kernel) cube19 ?_
  refine row_skip 21 rfl (by decide +kernel) ?_
  refine row_skip 22 rfl (by decide +kernel) ?_
  refine row_skip 23 rfl (by decide +kernel) ?_
  refine row_take 24 rfl (by decide +kernel) cube23 ?_
  refine row_skip 25 rfl (by decide +kernel) ?_
  refine row_skip 26 rfl (by decide +kernel) ?_
  refine row_skip 27 rfl (by decide +kernel) ?_
  refine row_skip 28 rfl (by decide +kernel) ?_
  refine row_skip 29 rfl (by decide +kernel) ?_
  refine row_take 30 rfl (by decide +kernel) cube29 ?_
  refine row_skip 31 rfl (by decide +kernel) ?_
  refine row_take 32 rfl (by decide +kernel) cube31 ?_
  refine row_skip 33 rfl (by decide +kernel) ?_
  refine row_skip 34 rfl (by decide +kernel) ?_
  refine row_skip 35 rfl (by decide +kernel) ?_
  refine row_skip 36 rfl (by decide +kernel) ?_
  refine row_skip 37 rfl (by decide +kernel) ?_
  refine row_take 38 rfl (by decide +kernel) cube37 ?_
  refine row_skip 39 rfl (by decide +kernel) ?_
  refine row_skip 40 rfl (by decide +kernel) ?_
  refine row_skip 41 rfl (by decide +kernel) ?_
  refine row_take 42 rfl (by decide +kernel) cube41 ?_
  refine row_skip 43 rfl (by decide +kernel) ?_
  refine row_take 44 rfl (by decide +kernel) cube43 ?_
  refine row_skip 45 rfl (by decide +kernel) ?_
  refine row_skip 46 rfl (by decide +kernel) ?_
  refine row_skip 47 rfl (by decide +kernel) ?_
  refine row_take 48 rfl (by decide +kernel) cube47 ?_
  refine row_skip 49 rfl (by decide +kernel) ?_
  refine row_skip 50 rfl (by decide +kernel) ?_
  refine row_skip 51 rfl (by decide +kernel) ?_
  refine row_skip 52 rfl (by decide +kernel) ?_
  refine row_skip 53 rfl (by decide +kernel) ?_
  refine row_take 54 rfl (by decide +kernel) cube53 ?_
  refine row_skip 55 rfl (by decide +kernel) ?_
  refine row_skip 56 rfl (by decide +kernel) ?_
  refine row_skip 57 rfl (by decide +kernel) ?_
  refine row_skip 58 rfl (by decide +kernel) ?_
  refine row_skip 59 rfl (by decide +kernel) ?_
  refine row_take 60 rfl (by decide +kernel) cube59 ?_
  refine row_skip 61 rfl (by decide +kernel) ?_
  refine row_take 62 rfl (by decide +kernel) cube61 ?_
  refine row_skip 63 rfl (by decide +kernel) ?_
  refine row_skip 64 rfl (by decide +kernel) ?_
  refine row_skip 65 rfl (by decide +kernel) ?_
  refine row_skip 66 rfl (by decide +kernel) ?_
  refine row_skip 67 rfl (by decide +kernel) ?_
  refine row_take 68 rfl (by decide +kernel) cube67 ?_
  refine row_skip 69 rfl (by decide +kernel) ?_
  refine row_skip 70 rfl (by decide +kernel) ?_
  refine row_skip 71 rfl (by decide +kernel) ?_
  refine row_take 72 rfl (by decide +kernel) cube71 ?_
  refine row_skip 73 rfl (by decide +kernel) ?_
  refine row_take 74 rfl (by decide +kernel) cube73 ?_
  refine row_skip 75 rfl (by decide +kernel) ?_
  refine row_skip 76 rfl (by decide +kernel) ?_
  refine row_skip 77 rfl (by decide +kernel) ?_
  refine row_skip 78 rfl (by decide +kernel) ?_
  refine row_skip 79 rfl (by decide +kernel) ?_
  refine row_take 80 rfl (by decide +kernel) cube79 ?_
  refine row_skip 81 rfl (by decide +kernel) ?_
  refine row_skip 82 rfl (by decide +kernel) ?_
  refine row_skip 83 rfl (by decide +kernel) ?_
  refine row_take 84 rfl (by decide +kernel) cube83 ?_
  refine row_skip 85 rfl (by decide +kernel) ?_
  refine row_skip 86 rfl (by decide +kernel) ?_
  refine row_skip 87 rfl (by decide +kernel) ?_
  refine row_skip 88 rfl (by decide +kernel) ?_
  refine row_skip 89 rfl (by decide +kernel) ?_
  refine row_take 90 rfl (by decide +kernel) cube89 ?_
  refine row_skip 91 rfl (by decide +kernel) ?_
  refine row_skip 92 rfl (by decide +kernel) ?_
  refine row_skip 93 rfl (by decide +kernel) ?_
  refine row_skip 94 rfl (by decide +kernel) ?_
  refine row_skip 95 rfl (by decide +kernel) ?_
  refine row_skip 96 rfl (by decide +kernel) ?_
  refine row_skip 97 rfl (by decide +kernel) ?_
  refine row_take 98 rfl (by decide +kernel) cube97 ?_
  refine row_skip 99 rfl (by decide +kernel) ?_
  refine row_skip 100 rfl (by decide +kernel) ?_
  refine row_skip 101 rfl (by decide +kernel) ?_
  refine row_take 102 rfl (by decide +kernel) cube101 ?_
  refine row_skip 103 rfl (by decide +kernel) ?_
  refine row_take 104 rfl (by decide +kernel) cube103 ?_
  refine row_skip 105 rfl (by decide +kernel) ?_
  refine row_skip 106 rfl (by decide +kernel) ?_
  refine row_skip 107 rfl (by decide +kernel) ?_
  refine row_take 108 rfl (by decide +kernel) cube107 ?_
  refine row_skip 109 rfl (by decide +kernel) ?_
  refine row_take 110 rfl (by decide +kernel) cube109 ?_
  refine row_skip 111 rfl (by decide +kernel) ?_
  refine row_skip 112 rfl (by decide +kernel) ?_
  refine row_skip 113 rfl (by decide +kernel) ?_
  refine row_take 114 rfl (by decide +kernel) cube113 ?_
  refine row_skip 115 rfl (by decide +kernel) ?_
  refine row_skip 116 rfl (by decide +kernel) ?_
  refine row_skip 117 rfl (by decide +kernel) ?_
  refine row_skip 118 rfl (by decide +kernel) ?_
  refine row_skip 119 rfl (by decide +kernel) ?_
  refine row_skip 120 rfl (by decide +kernel) ?_
  refine row_skip 121 rfl (by decide +kernel) ?_
  refine row_skip 122 rfl (by decide +kernel) ?_
  refine row_skip 123 rfl (by decide +kernel) ?_
  refine row_skip 124 rfl (by decide +kernel) ?_
  refine row_skip 125 rfl (by decide +kernel) ?_
  refine row_skip 126 rfl (by decide +kernel) ?_
  refine row_skip 127 rfl (by decide +kernel) ?_
  refine row_take 128 rfl (by decide +kernel) cube127 ?_
  refine row_skip 129 rfl (by decide +kernel) ?_
  refine row_skip 130 rfl (by decide +kernel) ?_
  refine row_skip 131 rfl (by decide +kernel) ?_
  refine row_take 132 rfl (by decide +kernel) cube131 ?_
  refine row_skip 133 rfl (by decide +kernel) ?_
  refine row_skip 134 rfl (by decide +kernel) ?_
  refine row_skip 135 rfl (by decide +kernel) ?_
  refine row_skip 136 rfl (by decide +kernel) ?_
  refine row_skip 137 rfl (by decide +kernel) ?_
  refine row_take 138 rfl (by decide +kernel) cube137 ?_
  refine row_skip 139 rfl (by decide +kernel) ?_
  refine row_take 140 rfl (by decide +kernel) cube139 ?_
  refine row_skip 141 rfl (by decide +kernel) ?_
  refine row_skip 142 rfl (by decide +kernel) ?_
  refine row_skip 143 rfl (by decide +kernel) ?_
  refine row_skip 144 rfl (by decide +kernel) ?_
  refine row_skip 145 rfl (by decide +kernel) ?_
  refine row_skip 146 rfl (by decide +kernel) ?_
  refine row_skip 147 rfl (by decide +kernel) ?_
  refine row_skip 148 rfl (by decide +kernel) ?_
  refine row_skip 149 rfl (by decide +kernel) ?_
  refine row_take 150 rfl (by decide +kernel) cube149 ?_
  refine row_skip 151 rfl (by decide +kernel) ?_
  refine row_take 152 rfl (by decide +kernel) cube151 ?_
  refine row_skip 153 rfl (by decide +kernel) ?_
  refine row_skip 154 rfl (by decide +kernel) ?_
  refine row_skip 155 rfl (by decide +kernel) ?_
  refine row_skip 156 rfl (by decide +kernel) ?_
  refine row_skip 157 rfl (by decide +kernel) ?_
  refine row_take 158 rfl (by decide +kernel) cube157 ?_
  refine row_skip 159 rfl (by decide +kernel) ?_
  refine row_skip 160 rfl (by decide +kernel) ?_
  refine row_skip 161 rfl (by decide +kernel) ?_
  refine row_skip 162 rfl (by decide +kernel) ?_
  refine row_skip 163 rfl (by decide +kernel) ?_
  refine row_take 164 rfl (by decide +kernel) cube163 ?_
  refine row_skip 165 rfl (by decide +kernel) ?_
  refine row_skip 166 rfl (by decide +kernel) ?_
  refine row_skip 167 rfl (by decide +kernel) ?_
  refine row_take 168 rfl (by decide +kernel) cube167 ?_
  refine row_skip 169 rfl (by decide +kernel) ?_
  refine row_skip 170 rfl (by decide +kernel) ?_
  refine row_skip 171 rfl (by decide +kernel) ?_
  refine row_skip 172 rfl (by decide +kernel) ?_
  refine row_skip 173 rfl (by decide +kernel) ?_
  refine row_take 174 rfl (by decide +kernel) cube173 ?_
  refine row_skip 175 rfl (by decide +kernel) ?_
  refine row_skip 176 rfl (by decide +kernel) ?_
  refine row_skip 177 rfl (by decide +kernel) ?_
  refine row_skip 178 rfl (by decide +kernel) ?_
  refine row_skip 179 rfl (by decide +kernel) ?_
  refine row_take 180 rfl (by decide +kernel) cube179 ?_
  refine row_skip 181 rfl (by decide +kernel) ?_
  refine row_take 182 rfl (by decide +kernel) cube181 ?_
  refine row_skip 183 rfl (by decide +kernel) ?_
  refine row_skip 184 rfl (by decide +kernel) ?_
  refine row_skip 185 rfl (by decide +kernel) ?_
  refine row_skip 186 rfl (by decide +kernel) ?_
  refine row_skip 187 rfl (by decide +kernel) ?_
  refine row_skip 188 rfl (by decide +kernel) ?_
  refine row_skip 189 rfl (by decide +kernel) ?_
  refine row_skip 190 rfl (by decide +kernel) ?_
  refine row_skip 191 rfl (by decide +kernel) ?_
  refine row_take 192 rfl (by decide +kernel) cube191 ?_
  refine row_skip 193 rfl (by decide +kernel) ?_
  refine row_take 194 rfl (by decide +kernel) cube193 ?_
  refine row_skip 195 rfl (by decide +kernel) ?_
  refine row_skip 196 rfl (by decide +kernel) ?_
  refine row_skip 197 rfl (by decide +kernel) ?_
  refine row_take 198 rfl (by decide +kernel) cube197 ?_
  refine row_skip 199 rfl (by decide +kernel) ?_
  refine row_take 200 rfl (by decide +kernel) cube199 ?_
  refine row_skip 201 rfl (by decide +kernel) ?_
  refine row_skip 202 rfl (by decide +kernel) ?_
  refine row_skip 203 rfl (by decide +kernel) ?_
  refine row_skip 204 rfl (by decide +kernel) ?_
  refine row_skip 205 rfl (by decide +kernel) ?_
  refine row_skip 206 rfl (by decide +kernel) ?_
  refine row_skip 207 rfl (by decide +kernel) ?_
  refine row_skip 208 rfl (by decide +kernel) ?_
  refine row_skip 209 rfl (by decide +kernel) ?_
  refine row_skip 210 rfl (by decide +kernel) ?_
  refine row_skip 211 rfl (by decide +kernel) ?_
  refine row_take 212 rfl (by decide +kernel) cube211 ?_
  refine row_skip 213 rfl (by decide +kernel) ?_
  refine row_skip 214 rfl (by decide +kernel) ?_
  refine row_skip 215 rfl (by decide +kernel) ?_
  refine row_skip 216 rfl (by decide +kernel) ?_
  refine row_skip 217 rfl (by decide +kernel) ?_
  refine row_skip 218 rfl (by decide +kernel) ?_
  refine row_skip 219 rfl (by decide +kernel) ?_
  refine row_skip 220 rfl (by decide +kernel) ?_
  refine row_skip 221 rfl (by decide +kernel) ?_
  refine row_skip 222 rfl (by decide +kernel) ?_
  refine row_skip 223 rfl (by decide +kernel) ?_
  refine row_take 224 rfl (by decide +kernel) cube223 ?_
  refine row_skip 225 rfl (by decide +kernel) ?_
  refine row_skip 226 rfl (by decide +kernel) ?_
  refine row_skip 227 rfl (by decide +kernel) ?_
  refine row_take 228 rfl (by decide +kernel) cube227 ?_
  refine row_skip 229 rfl (by decide +kernel) ?_
  refine row_take 230 rfl (by decide +kernel) cube229 ?_
  refine row_skip 231 rfl (by decide +kernel) ?_
  refine row_skip 232 rfl (by decide +kernel) ?_
  refine row_skip 233 rfl (by decide +kernel) ?_
  refine row_take 234 rfl (by decide +kernel) cube233 ?_
  refine row_skip 235 rfl (by decide +kernel) ?_
  refine row_skip 236 rfl (by decide +kernel) ?_
  refine row_skip 237 rfl (by decide +kernel) ?_
  refine row_skip 238 rfl (by decide +kernel) ?_
  refine row_skip 239 rfl (by decide +kernel) ?_
  refine row_take 240 rfl (by decide +kernel) cube239 ?_
  refine row_skip 241 rfl (by decide +kernel) ?_
  refine row_take 242 rfl (by decide +kernel) cube241 ?_
  refine row_skip 243 rfl (by decide +kernel) ?_
  refine row_skip 244 rfl (by decide +kernel) ?_
  refine row_skip 245 rfl (by decide +kernel) ?_
  refine row_skip 246 rfl (by decide +kernel) ?_
  refine row_skip 247 rfl (by decide +kernel) ?_
  refine row_skip 248 rfl (by decide +kernel) ?_
  refine row_skip 249 rfl (by decide +kernel) ?_
  refine row_skip 250 rfl (by decide +kernel) ?_
  refine row_skip 251 rfl (by decide +kernel) ?_
  refine row_take 252 rfl (by decide +kernel) cube251 ?_
  refine row_skip 253 rfl (by decide +kernel) ?_
  refine row_skip 254 rfl (by decide +kernel) ?_
  refine row_skip 255 rfl (by decide +kernel) ?_
  refine row_skip 256 rfl (by decide +kernel) ?_
  refine row_skip 257 rfl (by decide +kernel) ?_
  refine row_take 258 rfl (by decide +kernel) cube257 ?_
  refine row_skip 259 rfl (by decide +kernel) ?_
  refine row_skip 260 rfl (by decide +kernel) ?_
  refine row_skip 261 rfl (by decide +kernel) ?_
  refine row_skip 262 rfl (by decide +kernel) ?_
  refine row_skip 263 rfl (by decide +kernel) ?_
  refine row_take 264 rfl (by decide +kernel) cube263 ?_
  refine row_skip 265 rfl (by decide +kernel) ?_
  refine row_skip 266 rfl (by decide +kernel) ?_
  refine row_skip 267 rfl (by decide +kernel) ?_
  refine row_skip 268 rfl (by decide +kernel) ?_
  refine row_skip 269 rfl (by decide +kernel) ?_
  refine row_take 270 rfl (by decide +kernel) cube269 ?_
  refine row_skip 271 rfl (by decide +kernel) ?_
  refine row_take 272 rfl (by decide +kernel) cube271 ?_
  refine row_skip 273 rfl (by decide +kernel) ?_
  refine row_skip 274 rfl (by decide +kernel) ?_
  refine row_skip 275 rfl (by decide +kernel) ?_
  refine row_skip 276 rfl (by decide +kernel) ?_
  refine row_skip 277 rfl (by decide +kernel) ?_
  refine row_take 278 rfl (by decide +kernel) cube277 ?_
  refine row_skip 279 rfl (by decide +kernel) ?_
  refine row_skip 280 rfl (by decide +kernel) ?_
  refine row_skip 281 rfl (by decide +kernel) ?_
  refine row_take 282 rfl (by decide +kernel) cube281 ?_
  refine row_skip 283 rfl (by decide +kernel) ?_
  refine row_take 284 rfl (by decide +kernel) cube283 ?_
  refine row_skip 285 rfl (by decide +kernel) ?_
  refine row_skip 286 rfl (by decide +kernel) ?_
  refine row_skip 287 rfl (by decide +kernel) ?_
  refine row_skip 288 rfl (by decide +kernel) ?_
  refine row_skip 289 rfl (by decide +kernel) ?_
  refine row_skip 290 rfl (by decide +kernel) ?_
  refine row_skip 291 rfl (by decide +kernel) ?_
  refine row_skip 292 rfl (by decide +kernel) ?_
  refine row_skip 293 rfl (by decide +kernel) ?_
  refine row_take 294 rfl (by decide +kernel) cube293 ?_
  refine row_skip 295 rfl (by decide +kernel) ?_
  refine row_skip 296 rfl (by decide +kernel) ?_
  refine row_skip 297 rfl (by decide +kernel) ?_
  refine row_skip 298 rfl (by decide +kernel) ?_
  refine row_skip 299 rfl (by decide +kernel) ?_
  refine row_skip 300 rfl (by decide +kernel) ?_
  refine row_skip 301 rfl (by decide +kernel) ?_
  refine row_skip 302 rfl (by decide +kernel) ?_
  refine row_skip 303 rfl (by decide +kernel) ?_
  refine row_skip 304 rfl (by decide +kernel) ?_
  refine row_skip 305 rfl (by decide +kernel) ?_
  refine row_skip 306 rfl (by decide +kernel) ?_
  refine row_skip 307 rfl (by decide +kernel) ?_
  refine row_take 308 rfl (by decide +kernel) cube307 ?_
  refine row_skip 309 rfl (by decide +kernel) ?_
  refine row_skip 310 rfl (by decide +kernel) ?_
  refine row_skip 311 rfl (by decide +kernel) ?_
  refine row_take 312 rfl (by decide +kernel) cube311 ?_
  rfl
theorem roots8 : roots 8 false = [0x6a09e667, 0xbb67ae85, 0x3c6ef372, 0xa54ff53a, 0x510e527f, 0x9b05688c, 0x1f83d9ab, 0x5be0cd19] := by
  unfold roots
  rw [rootsTo_row, List.nil_append]
  exact row8
theorem roots64 : roots 64 true = [0x428a2f98, 0x71374491, 0xb5c0fbcf, 0xe9b5dba5, 0x3956c25b, 0x59f111f1, 0x923f82a4, 0xab1c5ed5, 0xd807aa98, 0x12835b01, 0x243185be, 0x550c7dc3, 0x72be5d74, 0x80deb1fe, 0x9bdc06a7, 0xc19bf174, 0xe49b69c1, 0xefbe4786, 0x0fc19dc6, 0x240ca1cc, 0x2de92c6f, 0x4a7484aa, 0x5cb0a9dc, 0x76f988da, 0x983e5152, 0xa831c66d, 0xb00327c8, 0xbf597fc7, 0xc6e00bf3, 0xd5a79147, 0x06ca6351, 0x14292967, 0x27b70a85, 0x2e1b2138, 0x4d2c6dfc, 0x53380d13, 0x650a7354, 0x766a0abb, 0x81c2c92e, 0x92722c85, 0xa2bfe8a1, 0xa81a664b, 0xc24b8b70, 0xc76c51a3, 0xd192e819, 0xd6990624, 0xf40e3585, 0x106aa070, 0x19a4c116, 0x1e376c08, 0x2748774c, 0x34b0bcb5, 0x391c0cb3, 0x4ed8aa4a, 0x5b9cca4f, 0x682e6ff3, 0x748f82ee, 0x78a5636f, 0x84c87814, 0x8cc70208, 0x90befffa, 0xa4506ceb, 0xbef9a3f7, 0xc67178f2] := by
  unfold roots
  rw [rootsTo_row, List.nil_append]
  exact row64
end Rf
end Go.Proofs.YtnbdadhdpplldabDoor
