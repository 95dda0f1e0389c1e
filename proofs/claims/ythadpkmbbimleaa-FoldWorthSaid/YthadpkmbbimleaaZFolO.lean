/- Layer 5: the rules of two with a sign between (the program's smallerTwo). -/
import Derived.Test.YthadpkmbbimleaaZFolN
namespace Go.Proofs.Ythadpkmbbimleaa
open Go.RowKit

def Fo.st (x : Sx.Ex) : Sx.Ex :=
  if Fo.nm x = [38, 38] then (if Fo.isB 0 ((Fo.pa x).getD 0 Fo.e0) then .mk 2 [] (Fo.nu ((Fo.pa x).getD 0 Fo.e0)) [] else if Fo.isB 1 ((Fo.pa x).getD 0 Fo.e0) && Fo.tof ((Fo.pa x).getD 1 Fo.e0) then (Fo.pa x).getD 1 Fo.e0 else if Fo.isB 1 ((Fo.pa x).getD 1 Fo.e0) && Fo.tof ((Fo.pa x).getD 0 Fo.e0) then (Fo.pa x).getD 0 Fo.e0 else x)
  else if Fo.nm x = [124, 124] then (if Fo.isB 1 ((Fo.pa x).getD 0 Fo.e0) then .mk 2 [] (Fo.nu ((Fo.pa x).getD 0 Fo.e0)) [] else if Fo.isB 0 ((Fo.pa x).getD 0 Fo.e0) && Fo.tof ((Fo.pa x).getD 1 Fo.e0) then (Fo.pa x).getD 1 Fo.e0 else if Fo.isB 0 ((Fo.pa x).getD 1 Fo.e0) && Fo.tof ((Fo.pa x).getD 0 Fo.e0) then (Fo.pa x).getD 0 Fo.e0 else x)
  else if Fo.nm x = [43] then (if Fo.isW 0 ((Fo.pa x).getD 1 Fo.e0) then (Fo.pa x).getD 0 Fo.e0 else if Fo.isW 0 ((Fo.pa x).getD 0 Fo.e0) then (Fo.pa x).getD 1 Fo.e0 else x)
  else if Fo.nm x = [45] then (if Fo.isW 0 ((Fo.pa x).getD 1 Fo.e0) then (Fo.pa x).getD 0 Fo.e0 else x)
  else if Fo.nm x = [42] then (if Fo.isW 1 ((Fo.pa x).getD 1 Fo.e0) then (Fo.pa x).getD 0 Fo.e0 else if Fo.isW 1 ((Fo.pa x).getD 0 Fo.e0) then (Fo.pa x).getD 1 Fo.e0 else x)
  else if Fo.nm x = [47] then (if Fo.isW 1 ((Fo.pa x).getD 1 Fo.e0) then (Fo.pa x).getD 0 Fo.e0 else x)
  else x
end Go.Proofs.Ythadpkmbbimleaa
