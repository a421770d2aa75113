/- slices.SortFunc of pairs: the laying at this program, in plain words (shelfG1.sh printed it). -/
import Derived.Shelf.SlSortCmp.WholeK
import Derived.Test.YtjpglbbkofidgaaM1MsL
import Derived.Test.YtjpglbbkofidgaaM4Pi
import Derived.Test.YtjpglbbkofidgaaM15Ng
namespace Go.Proofs
open Go.Shelf
def Try.laysSF_ren : Go.Shelf.Ren := ⟨fun | 6 => 94 | 15 => 98 | 14 => 110 | 28 => 121 | 29 => 122 | 20 => 123 | 21 => 124 | 22 => 125 | 23 => 126 | 24 => 127 | 25 => 128 | 26 => 129 | 27 => 130 | 46 => 137 | 47 => 133 | 48 => 134 | 49 => 138 | 50 => 139 | 57 => 141 | n => n, fun | 22 => 36 | 24 => 55 | 25 => 144 | 3 => 3 | 39 => 148 | 0 => 0 | 53 => 86 | 55 => 29 | 4 => 4 | 46 => 166 | 45 => 165 | 50 => 171 | 5 => 5 | 9 => 9 | 66 => 179 | 70 => 183 | 76 => 187 | 77 => 188 | n => n, fun | n => n⟩
theorem Try.laysSF : Go.Proofs.SlLaysF0.n6 Try.prog Try.laysSF_ren := {
 mixed := by kernel_rfl
 f6 := ⟨Try.f94.name, by decide, Try.func94.trans (congrArg some (by kernel_rfl))⟩
 f14 := ⟨Try.f110.name, by decide, Try.func110.trans (congrArg some (by kernel_rfl))⟩
 f15 := Try.func98.trans (congrArg some (by kernel_rfl))
 f20 := ⟨Try.f123.name, by decide, Try.func123.trans (congrArg some (by kernel_rfl))⟩
 f21 := ⟨Try.f124.name, by decide, Try.func124.trans (congrArg some (by kernel_rfl))⟩
 f22 := ⟨Try.f125.name, by decide, Try.func125.trans (congrArg some (by kernel_rfl))⟩
 f23 := ⟨Try.f126.name, by decide, Try.func126.trans (congrArg some (by kernel_rfl))⟩
 f24 := ⟨Try.f127.name, by decide, Try.func127.trans (congrArg some (by kernel_rfl))⟩
 f25 := ⟨Try.f128.name, by decide, Try.func128.trans (congrArg some (by kernel_rfl))⟩
 f26 := ⟨Try.f129.name, by decide, Try.func129.trans (congrArg some (by kernel_rfl))⟩
 f27 := ⟨Try.f130.name, by decide, Try.func130.trans (congrArg some (by kernel_rfl))⟩
 f28 := Try.func121.trans (congrArg some (by kernel_rfl))
 f29 := Try.func122.trans (congrArg some (by kernel_rfl))
 f46 := ⟨Try.f137.name, by decide, Try.func137.trans (congrArg some (by kernel_rfl))⟩
 f47 := Try.func133.trans (congrArg some (by kernel_rfl))
 f48 := Try.func134.trans (congrArg some (by kernel_rfl))
 f49 := ⟨Try.f138.name, by decide, Try.func138.trans (congrArg some (by kernel_rfl))⟩
 f50 := ⟨Try.f139.name, by decide, Try.func139.trans (congrArg some (by kernel_rfl))⟩
 f57 := ⟨Try.f141.name, by decide, Try.func141.trans (congrArg some (by kernel_rfl))⟩
 t0 := Try.underlying0
 a0 := Try.isAgg0
 z0 := Try.sizeOf0
 v0 := Try.zeroValue0
 t3 := Try.underlying3
 a3 := Try.isAgg3
 z3 := Try.sizeOf3
 v3 := Try.zeroValue3
 t4 := Try.underlying4
 a4 := Try.isAgg4
 z4 := Try.sizeOf4
 v4 := Try.zeroValue4
 t5 := Try.underlying5
 a5 := Try.isAgg5
 z5 := Try.sizeOf5
 v5 := Try.zeroValue5
 t9 := Try.underlying9
 a9 := Try.isAgg9
 z9 := Try.sizeOf9
 v9 := Try.zeroValue9
 t22 := Try.underlying36
 a22 := Try.isAgg36
 z22 := Try.sizeOf36
 v22 := Try.zeroValue36
 t25 := Try.underlying144
 a25 := Try.isAgg144
 z25 := Try.sizeOf144
 v25 := Try.zeroValue144
 t39 := Try.underlying148
 a39 := Try.isAgg148
 z39 := Try.sizeOf148
 v39 := Try.zeroValue148
 t45 := Try.underlying165
 a45 := Try.isAgg165
 z45 := Try.sizeOf165
 v45 := Try.zeroValue165
 t46 := Try.underlying166
 a46 := Try.isAgg166
 z46 := Try.sizeOf166
 v46 := Try.zeroValue166
 t50 := Try.underlying171
 a50 := Try.isAgg171
 z50 := Try.sizeOf171
 v50 := Try.zeroValue171
 t53 := Try.underlying86
 a53 := Try.isAgg86
 z53 := Try.sizeOf86
 v53 := Try.zeroValue86
 t55 := Try.underlying29
 a55 := Try.isAgg29
 z55 := Try.sizeOf29
 v55 := Try.zeroValue29
 t66 := Try.underlying179
 a66 := Try.isAgg179
 z66 := Try.sizeOf179
 v66 := Try.zeroValue179
 t70 := Try.underlying183
 a70 := Try.isAgg183
 z70 := Try.sizeOf183
 v70 := Try.zeroValue183
 t76 := Try.underlying187
 a76 := Try.isAgg187
 z76 := Try.sizeOf187
 v76 := Try.zeroValue187
 t77 := Try.underlying188
 a77 := Try.isAgg188
 z77 := Try.sizeOf188
 v77 := Try.zeroValue188 }
end Go.Proofs
/- Pairs sorted by their keys; a content between two keys. -/
namespace Go.Proofs.Ytjpglbbkofidgaa
open Go.RowKit Go.Maps Go.Shelf Go.Sort
set_option linter.unusedVariables false

end Go.Proofs.Ytjpglbbkofidgaa
/- The model's asks: what a query tells. -/
namespace Go.Proofs.Ytjpglbbkofidgaa
open Go.RowKit Go.Maps
set_option linter.unusedVariables false

end Go.Proofs.Ytjpglbbkofidgaa
