/- The document's List of entries, as a contract. -/
import Derived.Test.YtabiglnmfdpcfaaGreatDoorBz01
import Derived.Test.YtabiglnmfdpcfaaGreatDoorBz33
import Derived.Test.YtabiglnmfdpcfaaGreatDoorBz36
import Derived.Test.YtabiglnmfdpcfaaGreatDoorBz31
import Derived.Test.YtabiglnmfdpcfaaGreatDoorBz23
import Derived.Test.YtabiglnmfdpcfaaGreatDoorBz24
import Derived.Test.YtabiglnmfdpcfaaGreatDoorBz15
namespace Go.Proofs.YtabiglnmfdpcfaaGreatDoor
variable {base d n:Nat}
variable {es:List Ent}
variable {v:Value}
variable {w w' w0:World}
variable {xs:List Value}
set_option maxHeartbeats 8000000
set_option maxRecDepth 20000
open Go.RowKit

set_option maxRecDepth 100000 in
theorem refList_any (v:Value) (V:Nat→Value) (es:List Ent) (w:World) (hv:PrAt w v V es) (hn:es.length≤140737488355328):
    Kc 49 #[v] w fun e w'=>e=.returned (.int .i64 (errB es))∧Kb w w':=by
  obtain ⟨a,cap,rfl,hcap,hc,hr⟩:=hv
  by_cases hbig:4096<es.length
  · have hE:errB es=4:=by rw [errB,if_pos hbig]
    rw [hE];have hb:(4096:Int)<(es.length:Int):=by omega
    clear hc hr hcap hbig hE;go_enter Tryz.func49,Tryz.ntmps49
    go_wp2
    go_ret;exact ⟨rfl,Below.refl _ _⟩
  · have HE:Hid (errB es=lsE [] es):=by show _=_;rw [errB,if_neg hbig]
    have HC:=hidden hc;have HR:=hidden hr;have hb: ¬(4096:Int)<(es.length:Int):=by omega
    obtain ⟨n,hnn⟩:∃n,n=es.length:=⟨_,rfl⟩;have HN:=hidden hnn;obtain ⟨E,hE⟩:∃E,E=errB es:=⟨_,rfl⟩;rw [← hE] at HE ⊢;rw [← hnn] at hb hn ⊢;have hn2:n≤4096:=by omega
    clear hc hr hcap hbig hnn hE;go_enter Tryz.func49,Tryz.ntmps49
    go_wp2_with fail
    go_loopw [3] (fun i wr=>∃k:Nat,k≤n∧i=.int .i64 k∧Hid (E=lsE ((es.take k).map (·.1)) (es.drop k))∧Kb w wr) (fun i _=>n-(intOf i).toNat)
    case atStart=>exact ⟨0,by omega,rfl,HE,Below.refl _ _⟩
    case round=>
      obtain ⟨k,hk,rfl,hls,hbw⟩:=hrel
      by_cases hlt:k<n
      · have hlt':k<es.length:=by rw [← HN.out];exact hlt
        obtain ⟨g,off,rfl,hcc⟩:=HC.out (by omega);have z1:(k:Int)<(n:Int):=by omega
        have z0:(0:Int)≤(k:Int):=by omega
        obtain ⟨hkey,hrd⟩:=HR.out k hlt';have HCC:Hid (∀i,i<n→∀w',Kb w w'→w'.rangeAt g (off+i * 33) (encP (es.getD i e00).1 (V i))):=fun i hi w' hw'=>rng_grow (hcc i (by rw [← HN.out];exact hi)) hw'
        have hst:=lsE_step ((es.take k).map (·.1)) es k hlt';rw [← hls.out] at hst;have HKT:=hidden (keys_take es k hlt');have HKM:Hid (∀x,x∈(es.take k).map (·.1)↔∃q,q<k∧(es.getD q e00).1=x):=by
          intro x;constructor
          · intro hx
            obtain ⟨y,hy,rfl⟩:=List.mem_map.1 hx;obtain ⟨j,hj,rfl⟩:=List.mem_iff_getElem.1 hy;simp at hj;exact ⟨j,by omega,by simp [List.getD,show j<es.length by omega]⟩
          · rintro ⟨q,hq,rfl⟩
            refine List.mem_map.2 ⟨es.getD q e00,?_,rfl⟩;have hq':q<es.length:=by omega
            have:es.getD q e00=(es.take k)[q]'(by simp;omega):=by simp [List.getD,hq']
            rw [this];exact List.getElem_mem _
        obtain ⟨va,vc,hV,_,_,_,_⟩:=hrd;have ckv:wr.cell? ⟨g,off+k * 33+32,none⟩=some (V k):=rng_val (HCC.out k hlt wr hbw) hkey.1;obtain ⟨K,hK⟩:∃K,K=(es.getD k e00).1:=⟨_,rfl⟩;obtain ⟨L,hL⟩:∃L,L=(es.getD k e00).2.length:=⟨_,rfl⟩;rw [← hK,← hL] at hst;rw [← hK] at HKT hkey;rw [← hL] at hV;rw [hV] at ckv;have HKK:=hidden hK;have HKY:=hidden hkey;obtain ⟨ks,hksd⟩:∃ks,ks=(es.take k).map (·.1):=⟨_,rfl⟩;rw [← hksd] at hst HKT HKM;clear hcc hls hK hL hV hkey hksd hlt'
        by_cases hlong:1024<L
        · rw [if_pos hlong] at hst
          have hl2:(1024:Int)<(L:Int):=by omega
          have HSTT:=hidden hst;clear hst hlong
          go_wp2_with fail
          go_ret;exact ⟨by rw [HSTT.out];rfl,hbw⟩
        · rw [if_neg hlong] at hst
          have hl2: ¬(1024:Int)<(L:Int):=by omega
          have HST:=hidden hst;clear hst hlong
          go_wp2_with fail
          go_loopw [4] (fun j ws=>∃q:Nat,q≤k∧j=.int .i64 q∧Hid (∀p,p<q→(es.getD p e00).1≠K)∧Kb w ws) (fun j _=>k-(intOf j).toNat)
          case atStart=>exact ⟨0,by omega,rfl,fun p hp=>by omega,hbw⟩
          case round=>
            obtain ⟨q,hq,rfl,hno,hbs⟩:=hrel
            by_cases hqk:q<k
            · have y1:(q:Int)<(k:Int):=by omega
              have y0:(0:Int)≤(q:Int):=by omega
              have y2:(q:Int)<(n:Int):=by omega
              obtain ⟨J,hJ⟩:∃J,J=(es.getD q e00).1:=⟨_,rfl⟩;have HJL:Hid (J.length=32):=by
                show _=_;rw [hJ];exact (HR.out q (by rw [← HN.out];omega)).1.1
              have hEq:∀w,(Op.equalIn 10000 34 (.agg (B J)) (.agg (B K))).run Tryz.prog w=.ok (decide (J=K)) w:=fun w=>path_eq J K HJL.out HKY.out.1 w
              have HS:Hid (∀w',Kb w w'→w'.rangeAt g (off+q * 33) (B J).toList∧w'.rangeAt g (off+k * 33) (B K).toList):=fun w' hw'=>by
                have h1:=rng_key (HCC.out q (by omega) w' hw');have h2:=rng_key (HCC.out k hlt w' hw');rw [← hJ] at h1;rw [← HKK.out] at h2;exact ⟨h1,h2⟩
              have HLJ:Hid ((Tryz.prog.info? 34).map (·.size)=some (B J).toList.length):=by show _=_;rw [B_toList,List.length_map,HJL.out];exact sz_path
              have HLK:Hid ((Tryz.prog.info? 34).map (·.size)=some (B K).toList.length):=by show _=_;rw [B_toList,List.length_map,HKY.out.1];exact sz_path
              have HJJ:=hidden hJ;clear hJ
              by_cases hJK:J=K
              · have HR6:Hid (E=6):=by
                  show _=_;rw [HST.out,if_pos ((HKM.out K).2 ⟨q,hqk,by rw [← HJJ.out,hJK]⟩)]
                rw [decide_eq_true hJK] at hEq;have HJK:=hidden hJK;clear hJK
                go_wp2_with fail
                have d0:Kb w wr.drew:=grow_trans hbs (Below.refl _ _).drew;refine wp_region_held_drew (S:=fun w'=>w'.rangeAt g (off+q * 33) (B J).toList∧w'.rangeAt g (off+k * 33) (B K).toList) (by kernel_rfl) (HS.out _ d0) (fun hHeld=>?_);refine tkp 0 (.slice (some ⟨g,off,none⟩) n cap) hHeld ?_;simp only [Act.put,zq1,zq2,zq4,zq5,zq6];refine tkp 1 (.int .i64 q) hHeld ?_;simp only [Act.put,zq1,zq2,zq3,zq4,zq5,zq6];refine tkp 2 (.pointer (some ⟨g,off+q * 33,none⟩)) hHeld ?_;simp only [Act.put,zq1,zq2,zq3,zq4,zq5,zq6];refine tkp 3 (.pointer (some ⟨g,off+q * 33,none⟩)) hHeld ?_;simp only [Act.put,zq1,zq2,zq3,zq4,zq5,zq6];refine tkg 4 (.agg (B J)) rfl (yieldsIf_load_mid rfl 34 (.tmp 29) rfl g (off+q * 33) rfl (B J).toList _ (fun w hS=>hS.1) Tryz.underlying34 rfl HLJ.out) hHeld ?_;simp only [Act.put,zq1,zq2,zq3,zq4,zq5,zq6];refine tkp 5 (.slice (some ⟨g,off,none⟩) n cap) hHeld ?_;simp only [Act.put,zq1,zq2,zq3,zq4,zq5,zq6];refine tkp 6 (.int .i64 k) hHeld ?_;simp only [Act.put,zq1,zq2,zq3,zq4,zq5,zq6];refine tkp 7 (.pointer (some ⟨g,off+k * 33,none⟩)) hHeld ?_;simp only [Act.put,zq1,zq2,zq3,zq4,zq5,zq6];refine tkp 8 (.pointer (some ⟨g,off+k * 33,none⟩)) hHeld ?_;simp only [Act.put,zq1,zq2,zq3,zq4,zq5,zq6];refine tkg 9 (.agg (B K)) rfl (yieldsIf_load_mid rfl 34 (.tmp 34) rfl g (off+k * 33) rfl (B K).toList _ (fun w hS=>hS.2) Tryz.underlying34 rfl HLK.out) hHeld ?_;simp only [Act.put,zq1,zq2,zq3,zq4,zq5,zq6];refine tkp 10 (.bool true) hHeld ?_;simp only [Act.put,zq1,zq2,zq3,zq4,zq5,zq6];refine wpAnyH_done (by kernel_rfl) ?_ _
                go_wp2_with fail
                go_ret;exact ⟨by rw [HR6.out];rfl,d0⟩
              · have HNO:Hid (∀p,p<q+1→(es.getD p e00).1≠K):=by
                  intro p hp
                  by_cases e:p=q
                  · rw [e,← HJJ.out]
                    exact hJK
                  · exact hno.out p (by omega)
                rw [decide_eq_false hJK] at hEq;clear hJK
                go_wp2_with fail
                have d0:Kb w wr.drew:=grow_trans hbs (Below.refl _ _).drew;refine wp_region_held_drew (S:=fun w'=>w'.rangeAt g (off+q * 33) (B J).toList∧w'.rangeAt g (off+k * 33) (B K).toList) (by kernel_rfl) (HS.out _ d0) (fun hHeld=>?_);refine tkp 0 (.slice (some ⟨g,off,none⟩) n cap) hHeld ?_;simp only [Act.put,zq1,zq2,zq4,zq5,zq6];refine tkp 1 (.int .i64 q) hHeld ?_;simp only [Act.put,zq1,zq2,zq3,zq4,zq5,zq6];refine tkp 2 (.pointer (some ⟨g,off+q * 33,none⟩)) hHeld ?_;simp only [Act.put,zq1,zq2,zq3,zq4,zq5,zq6];refine tkp 3 (.pointer (some ⟨g,off+q * 33,none⟩)) hHeld ?_;simp only [Act.put,zq1,zq2,zq3,zq4,zq5,zq6];refine tkg 4 (.agg (B J)) rfl (yieldsIf_load_mid rfl 34 (.tmp 29) rfl g (off+q * 33) rfl (B J).toList _ (fun w hS=>hS.1) Tryz.underlying34 rfl HLJ.out) hHeld ?_;simp only [Act.put,zq1,zq2,zq3,zq4,zq5,zq6];refine tkp 5 (.slice (some ⟨g,off,none⟩) n cap) hHeld ?_;simp only [Act.put,zq1,zq2,zq3,zq4,zq5,zq6];refine tkp 6 (.int .i64 k) hHeld ?_;simp only [Act.put,zq1,zq2,zq3,zq4,zq5,zq6];refine tkp 7 (.pointer (some ⟨g,off+k * 33,none⟩)) hHeld ?_;simp only [Act.put,zq1,zq2,zq3,zq4,zq5,zq6];refine tkp 8 (.pointer (some ⟨g,off+k * 33,none⟩)) hHeld ?_;simp only [Act.put,zq1,zq2,zq3,zq4,zq5,zq6];refine tkg 9 (.agg (B K)) rfl (yieldsIf_load_mid rfl 34 (.tmp 34) rfl g (off+k * 33) rfl (B K).toList _ (fun w hS=>hS.2) Tryz.underlying34 rfl HLK.out) hHeld ?_;simp only [Act.put,zq1,zq2,zq3,zq4,zq5,zq6];refine tkp 10 (.bool false) hHeld ?_;simp only [Act.put,zq1,zq2,zq3,zq4,zq5,zq6];refine wpAnyH_done (by kernel_rfl) ?_ _
                go_wp2_with fail
                exact ⟨⟨q+1,by omega,by go_num,HNO,d0⟩,by simp [intOf];omega⟩
            · have hqe:q=k:=by omega
              subst hqe;have HSTT:Hid (E=lsE (ks++[K]) (es.drop (q+1))):=by
                show _=_;rw [HST.out,if_neg];intro hm;obtain ⟨p,hp,e⟩:=(HKM.out K).1 hm;exact hno.out p hp e
              rw [← HKT.out] at HSTT;have y1: ¬(q:Int)<(q:Int):=by omega
              go_wp2_with fail
              exact ⟨⟨q+1,by omega,by go_num,HSTT,hbs⟩,by simp [intOf];omega⟩
      · have hkn:k=es.length:=by rw [← HN.out];omega
        have HZ:Hid (E=0):=by
          show _=_;rw [hls.out,hkn,List.drop_of_length_le (Nat.le_refl _)];rfl
        have z1: ¬(k:Int)<(n:Int):=by omega
        clear hls;go_wp2
        go_ret;exact ⟨by rw [HZ.out];rfl,hbw⟩

end Go.Proofs.YtabiglnmfdpcfaaGreatDoor

namespace Go.Proofs.YtabiglnmfdpcfaaGreatDoor
variable {base d n:Nat}
variable {es:List Ent}
variable {v:Value}
variable {w w' w0:World}
variable {xs:List Value}
set_option maxHeartbeats 8000000
set_option maxRecDepth 20000
open Go.RowKit

theorem side_step (es:List Ent) (k d:Nat) (b:Int) (hk:k<es.length):sideOf (es.take (k+1)) d b=sideOf (es.take k) d b++(if (kbi (es.getD k e00).1 d == b)=true then [es.getD k e00] else []):=by
  unfold sideOf;rw [List.take_add_one,List.filter_append];congr 1
  simp [List.getD,hk,List.filter_cons]

def SidePost (es:List Ent) (d:Nat) (b:Int) (w:World) (e:Ending) (w':World):Prop:=∃v V,e=.returned v∧PrAt w' v V (sideOf es d b)∧Kb w w'

theorem below_own (hb:Kb w0 w) (ho:w.ownsRow base 62 33 v n xs) (hbase:w0.heap.size≤base) (hg:w.grownBy w' v.ownBlock):Kb w0 w':=
  hb.trans ⟨hg.os,hg.tape,hg.output,hg.size,fun k hk=>hg.block k (Nat.lt_of_lt_of_le hk hb.size) (fun e=>by have:=(ho.lt k e.symm).1;omega)⟩

set_option maxRecDepth 100000 in
theorem refSide_any (v:Value) (V:Nat→Value) (es:List Ent) (d:Nat) (b:Int) (w:World) (hv:PrAt w v V es) (hn:es.length≤4096):
    Kc 101 #[v,.int .i64 d,.int .i64 b] w (SidePost es d b w):=by
  have hkeys:=hv.keys;obtain ⟨a,cap,rfl,hcap,hc,hr⟩:=hv;have HC:=hidden hc;have HR:=hidden hr;obtain ⟨n,hnn⟩:∃n,n=es.length:=⟨_,rfl⟩;have HN:=hidden hnn;have HPost:Hid (∀w' s its,its.map (·.1)=sideOf es d b→(∀p∈its,Key p.1.1∧Reads w p.2 p.1.2)→w'.ownsRow w.heap.size 62 33 s its.length (flatP its)→Kb w w'→SidePost es d b w (.returned s) w'):=fun w' s its h1 h2 h3 h4=>⟨s,_,rfl,by
    have:=prAt_own h3 (fun p hp=>(h2 p hp).1) (fun p hp=>(h2 p hp).2.grow h4);rwa [h1] at this,h4⟩
  rw [← hnn] at hn ⊢;clear hc hr hcap hnn hkeys;go_enter Tryz.func101,Tryz.ntmps101
  go_wp2_with fail
  go_loopw [7,8] (fun s i wr=>∃(k m:Nat) (its:List (Ent×Value)) (sa:Option Addr) (sc:Nat),k≤n∧i=.int .i64 k∧s=.slice sa m sc∧Hid (its.length=m)∧Hid (its.map (·.1)=sideOf (es.take k) d b)∧Hid (∀p∈its,Key p.1.1∧Reads w p.2 p.1.2)∧Hid (wr.ownsRow w.heap.size 62 33 (.slice sa m sc) m (flatP its))∧Kb w wr) (fun _ i _=>n-(intOf i).toNat)
  case atStart=>exact ⟨0,0,[],none,0,by omega,rfl,rfl,rfl,rfl,fun p hp=>by simp at hp,World.ownsRow_nil _ _ _ _,Below.refl _ _⟩
  case round=>
    obtain ⟨k,m,its,sa,sc,hk,rfl,rfl,hml,him,hia,hio,hbw⟩:=hrel
    by_cases hlt:k<n
    · have hlt':k<es.length:=by rw [← HN.out];exact hlt
      obtain ⟨g,off,rfl,hcc⟩:=HC.out (by omega);have z1:(k:Int)<(n:Int):=by omega
      have z0:(0:Int)≤(k:Int):=by omega
      obtain ⟨hkey,hrd⟩:=HR.out k hlt';have hst:=side_step es k d b hlt';have hil:m≤4096:=by
        have:=congrArg List.length him.out;rw [List.length_map,hml.out] at this;rw [this];exact Nat.le_trans (List.length_filter_le _ _) (by simp;omega)
      have HCC:Hid (∀w',Kb w w'→w'.rangeAt g (off+k * 33) (encP (es.getD k e00).1 (V k))):=fun w' hw'=>rng_grow (hcc k hlt') hw'
      have HBit:Hid (∀w',Kc 53 #[.agg (B (es.getD k e00).1),.int .i64 d] w' fun e w''=>e=.returned (.int .i64 (kbi (es.getD k e00).1 d))∧Below w'.heap.size w' w''):=fun w'=>rbit_any _ d w' hkey
      have HV1:=hidden (reads_one hrd);have HKY:=hidden hkey;have HRD:=hidden hrd;obtain ⟨E,hE⟩:∃E,E=es.getD k e00:=⟨_,rfl⟩;obtain ⟨β,hβ⟩:∃β,β=kbi E.1 d:=⟨_,rfl⟩;rw [← hE] at hst HCC HBit HKY HRD;rw [← hβ] at hst HBit;clear hcc hkey hrd hlt' hE hβ
      by_cases hbb:β=b
      · have hb2:(β == b)=true:=by simp [hbb]
        rw [hb2,if_pos rfl] at hst;have HIM:Hid ((its++[(E,V k)]).map (·.1)=sideOf (es.take (k+1)) d b):=by
          show _=_;rw [hst,List.map_append,him.out];rfl
        have HIA:Hid (∀p∈its++[(E,V k)],Key p.1.1∧Reads w p.2 p.1.2):=by
          intro p hp;rcases List.mem_append.1 hp with hp | hp
          · exact hia.out p hp
          · obtain rfl:p=(E,V k):=by simpa using hp
            exact ⟨HKY.out,HRD.out⟩
        clear hst hbb
        go_wp2_with (first
          |((with_reducible refine at_ldd 19 18 ?_);refine wpList_ldk _ rfl _ rfl g (off+k * 33) E.1 rfl (rng_key (HCC.out _ hbw)) HKY.out.1 ?_)
          |(go_at_call 53;refine (HBit.out _).mono ?_;rintro e w2 ⟨rfl,q2⟩;have c2:=grow_trans hbw q2;have HIO:=hidden (ownsP_below hio.out q2))
          |((with_reducible refine at_ldd 28 27 ?_);refine wpList_ldp _ rfl _ rfl g (off+k * 33) E.1 (V k) rfl (HCC.out _ c2) HKY.out.1 ?_)
          |(refine wpList_bsp _ rfl _ rfl E.1 (V k) rfl HKY.out.1 ?_)
          |(at_builtin;refine wpList_appP _ rfl _ _ rfl w.heap.size _ m (flatP its) (HIO.out.alloc _) rfl w2.heap.size E.1 (V k) rfl (Blk.new _ _ _) HKY.out.1 HV1.out hil (Nat.le_trans c2.size (by simp)) ?_;intro v' w3 ho3 hg3))
        have c3:=below_own (grow_trans c2 (grow_alloc _ _)) (HIO.out.alloc _) (Nat.le_refl _) hg3;rw [← flatP_snoc its (E,V k)] at ho3;obtain ⟨sa',sc',rfl⟩:∃sa' sc',v'=.slice sa' (m+1) sc':=by
          rcases ho3.2 with ⟨e,e2⟩ | ⟨g',cap',cur,e,_⟩
          · omega
          · exact ⟨_,_,e⟩
        exact ⟨⟨k+1,m+1,its++[(E,V k)],sa',sc',by omega,by go_num,rfl,by show _=_;rw [List.length_append,hml.out];rfl,HIM,HIA,ho3,c3⟩,by simp [intOf];omega⟩
      · have hb2:(β == b)=false:=by simp [hbb]
        rw [hb2,if_neg (by simp),List.append_nil] at hst;have HIM:Hid (its.map (·.1)=sideOf (es.take (k+1)) d b):=by
          show _=_;rw [hst,him.out]
        clear hst hbb
        go_wp2_with (first
          |((with_reducible refine at_ldd 19 18 ?_);refine wpList_ldk _ rfl _ rfl g (off+k * 33) E.1 rfl (rng_key (HCC.out _ hbw)) HKY.out.1 ?_)
          |(go_at_call 53;refine (HBit.out _).mono ?_;rintro e w2 ⟨rfl,q2⟩;have c2:=grow_trans hbw q2;have HIO:=hidden (ownsP_below hio.out q2)))
        exact ⟨⟨k+1,m,its,sa,sc,by omega,by go_num,rfl,hml,HIM,hia,HIO,c2⟩,by simp [intOf];omega⟩
    · have hkn:k=es.length:=by rw [← HN.out];omega
      have z1: ¬(k:Int)<(n:Int):=by omega
      rw [hkn,List.take_length] at him;clear hkn;go_wp2
      go_ret;exact HPost.out _ _ _ him.out hia.out (by rw [hml.out];exact hio.out) hbw

end Go.Proofs.YtabiglnmfdpcfaaGreatDoor

namespace Go.Proofs.YtabiglnmfdpcfaaGreatDoor
variable {base d n:Nat}
variable {es:List Ent}
variable {v:Value}
variable {w w' w0:World}
variable {xs:List Value}
set_option maxHeartbeats 8000000
set_option maxRecDepth 20000
open Go.RowKit

def rfnd (es:List Ent) (K:Lq):Lq×Bool:=match es.find? (fun e=>decide (e.1=K)) with
  | some e=>(e.2,true)
  | none=>([],false)
def RfPost (r:Lq×Bool) (w:World) (e:Ending) (w':World):Prop:=
  ∃a c sp,e=.returned (.tuple #[.slice a r.1.length c,.bool r.2])∧Own w.heap.size w' (.slice a r.1.length c) r.1 sp∧Kb w w'

def FwPost (w:World) (e:Ending) (w':World):Prop:=
  ∃(its:List (Ent×Value)) (a:Option Addr) (c:Nat),e=.returned (.slice a its.length c)∧w'.ownsRow w.heap.size 62 33 (.slice a its.length c) its.length (flatP its)∧(∀p∈its,Key p.1.1∧Reads w p.2 p.1.2∧p.1.2.length≤1024)∧its.length≤12∧Apart1 (its.map (·.1))∧Kb w w'

end Go.Proofs.YtabiglnmfdpcfaaGreatDoor

namespace Go.Proofs.YtabiglnmfdpcfaaGreatDoor
variable {base d n:Nat}
variable {es:List Ent}
variable {v:Value}
variable {w w' w0:World}
variable {xs:List Value}
set_option maxHeartbeats 8000000
set_option maxRecDepth 20000
open Go.RowKit

theorem b32_facts (D:Lq) (h:D.length=32):(Tryz.prog.info? 33).map (·.size)=some (B D).size∧(B (List.replicate 32 0)).size=(B D).size:=⟨by rw [B_size,h];exact size_b32,by rw [B_size,B_size,h];rfl⟩

theorem refAt_none (d:Int) (a:Option Addr) (cap:Nat) (w:World):Kc 50 #[.slice a 0 cap,.int .i64 d] w fun e w'=>e=.returned (.agg (B emD))∧Kb w w':=by
  obtain ⟨D,hD⟩:∃D,D=emD:=⟨_,rfl⟩;have HF:=hidden (b32_facts D (by rw [hD];exact dig_length _));have HE:Hid (∀w',Kc 97 #[] w' fun e w''=>e=.returned (.agg (B D))∧Below w'.heap.size w' w''):=fun w'=>by rw [hD];exact refEmpty_any w'
  rw [← hD];clear hD;go_enter Tryz.func50,Tryz.ntmps50
  go_wp2_with (first
    |((with_reducible refine at_ald 4 ?_);refine wpList_al _ rfl _ rfl _ zero_b32 ?_;intro w1 g1 hg1 hl1 B1 b1)
    |(go_at_call 97;refine (HE.out _).mono ?_;rintro e w2 ⟨rfl,b2⟩;have B2:=B1.grow b2)
    |((with_reducible refine at_st 4 ?_);refine wpList_sto _ rfl _ _ _ rfl g1 _ (B D) rfl rfl B2 HF.out.1 HF.out.2 (B_one _) ?_;intro w3 B3 r3))
  exact bodyPost_ret (v:=.agg (B D)) (results_cell_row rfl _ _ g1 _ _ _ _ rfl B3 Tryz.underlying33 rfl HF.out.1) rfl ⟨rfl,below_row (grow_trans b1 b2) r3 hg1⟩

theorem refAt_leaf (d:Int) (g off cap:Nat) (E:Ent) (u:Value) (w:World) (hk:Key E.1) (hu:Reads w u E.2) (hl:E.2.length≤1024) (hr:w.rangeAt g off (encP E.1 u)):Kc 50 #[.slice (some ⟨g,off,none⟩) 1 cap,.int .i64 d] w fun e w'=>e=.returned (.agg (B (enD E)))∧Kb w w':=by
  obtain ⟨D,hD⟩:∃D,D=enD E:=⟨_,rfl⟩;have HF:=hidden (b32_facts D (by rw [hD];exact dig_length _));obtain ⟨A,hA⟩:∃A,A=vaD E.2:=⟨_,rfl⟩;have HVa:Hid (Kr w 99 #[u] (.agg (B A))):=fun w' hb=>by rw [hA];exact refValue_any u _ w' (hu.grow hb) (by omega)
  have HE:Hid (∀w',Kc 98 #[.agg (B E.1),.agg (B A)] w' fun e w''=>e=.returned (.agg (B D))∧Below w'.heap.size w' w''):=fun w'=>by rw [hD,hA];exact refLeaf_any E.1 (vaD E.2) w' hk.1 (dig_length _) hk.2 (dig_bytes _)
  have HR:Hid (∀w',Kb w w'→w'.rangeAt g off (B E.1).toList∧w'.cell? ⟨g,off+32,none⟩=some u):=fun w' hw'=>⟨rng_key (rng_grow hr hw'),rng_val (rng_grow hr hw') hk.1⟩
  have HLK:Hid ((Tryz.prog.info? 34).map (·.size)=some (B E.1).toList.length):=by show _=_;rw [B_toList,List.length_map,hk.1];exact sz_path
  obtain ⟨K,hK⟩:∃K,K=E.1:=⟨_,rfl⟩;rw [← hK] at HE HR HLK;rw [← hD];obtain ⟨ua,uc,rfl,_,_,_,_⟩:=hu;obtain ⟨L,hL⟩:∃L,L=E.2.length:=⟨_,rfl⟩;rw [← hL] at HVa HR;clear hD hK hA hr hk hl hL;go_enter Tryz.func50,Tryz.ntmps50
  go_wp2_with (first
    |((with_reducible refine at_ald 4 ?_);refine wpList_al _ rfl _ rfl _ zero_b32 ?_;intro w1 g1 hg1 hl1 B1 b1))
  have d0:Kb w w1.drew:=grow_trans b1 (Below.refl _ _).drew;refine wp_region_held_drew (S:=fun w'=>w'.rangeAt g off (B K).toList∧w'.cell? ⟨g,off+32,none⟩=some (.slice ua L uc)) (by kernel_rfl) (HR.out _ d0) (fun hHeld=>?_);refine tkp 0 (.slice (some ⟨g,off,none⟩) 1 cap) hHeld ?_;simp only [Act.put,zq1,zq2,zq4,zq5,zq6];refine tkp 1 (.pointer (some ⟨g,off,none⟩)) hHeld ?_;simp only [Act.put,zq1,zq2,zq3,zq4,zq5,zq6];refine tkp 2 (.pointer (some ⟨g,off,none⟩)) hHeld ?_;simp only [Act.put,zq1,zq2,zq3,zq4,zq5,zq6];refine tkg 3 (.agg (B K)) rfl (yieldsIf_load_mid rfl 34 (.tmp 14) rfl g off rfl (B K).toList _ (fun w hS=>hS.1) Tryz.underlying34 rfl HLK.out) hHeld ?_;simp only [Act.put,zq1,zq2,zq3,zq4,zq5,zq6];refine tkp 4 (.slice (some ⟨g,off,none⟩) 1 cap) hHeld ?_;simp only [Act.put,zq1,zq2,zq3,zq4,zq5,zq6];refine tkp 5 (.pointer (some ⟨g,off,none⟩)) hHeld ?_;simp only [Act.put,zq1,zq2,zq3,zq4,zq5,zq6];refine tkp 6 (.pointer (some ⟨g,off+32,none⟩)) hHeld ?_;simp only [Act.put,zq1,zq2,zq3,zq4,zq5,zq6];refine tkg 7 (.slice ua L uc) rfl (Or.inl ⟨by rfl,fun w hS=>by (have s1:=hS.2;go_simp)⟩) hHeld ?_;simp only [Act.put,zq1,zq2,zq3,zq4,zq5,zq6];refine wpAnyH_ready (rs:=[8]) (by kernel_rfl) (by simp) ?_;refine AllReadyH.cons rfl (fun KQ hK=>?_) AllReadyH.nil;go_simp;refine (HVa.out _ d0).mono ?_;rintro e x1 ⟨rfl,a1⟩;have d1:=grow_trans d0 a1;refine hK.out _ _ (HR.out _ d1) (fun hHeld=>?_);clear hK KQ;refine wpAnyH_ready (rs:=[9]) (by kernel_rfl) (by simp) ?_;refine AllReadyH.cons rfl (fun KQ hK=>?_) AllReadyH.nil;go_simp;refine (HE.out _).mono ?_;rintro e x2 ⟨rfl,a2⟩;have d2:=grow_trans d1 a2;refine hK.out _ _ (HR.out _ d2) (fun hHeld=>?_);clear hK KQ;refine wpAnyH_ready (rs:=[10]) (by kernel_rfl) (by simp) ?_;refine AllReadyH.cons rfl (fun KQ hK=>?_) AllReadyH.nil;refine step_sto _ rfl _ _ _ rfl g1 _ (B D) rfl rfl ((B1.drew.grow a1).grow a2) HF.out.1 HF.out.2 (B_one _) ?_;intro w4 B4 g4;have c4:=below_row d2 g4 hg1;refine hK.out _ _ (HR.out _ c4) (fun hHeld=>?_);clear hK KQ;refine wpAnyH_done (by kernel_rfl) ?_ _
  go_wp2_with fail
  exact bodyPost_ret (v:=.agg (B D)) (results_cell_row rfl _ _ g1 _ _ _ _ rfl B4 Tryz.underlying33 rfl HF.out.1) rfl ⟨rfl,c4⟩

theorem rt_length (n d:Nat) (es:List Ent):(rt n d es).length=32:=by
  match n,es with
  | _,[]=>rw [rt_nil];exact dig_length _
  | _,[x]=>rw [rt_one];exact dig_length _
  | 0,_::_::_=>exact dig_length _
  | n+1,a::b::l=>rw [rt_more n d _ (by simp)];exact dig_length _
theorem rt_bytes (n d:Nat) (es:List Ent):Bytes (rt n d es):=by
  match n,es with
  | _,[]=>rw [rt_nil];exact dig_bytes _
  | _,[x]=>rw [rt_one];exact dig_bytes _
  | 0,_::_::_=>exact dig_bytes _
  | n+1,a::b::l=>rw [rt_more n d _ (by simp)];exact dig_bytes _

theorem refAt_more (d:Nat) (a:Option Addr) (m cap:Nat) (es:List Ent) (R0 R1:Lq) (w:World) (hd:d<256) (hm:2≤m) (l0:R0.length=32) (l1:R1.length=32) (y0:Bytes R0) (y1:Bytes R1)
    (hp:∀w' b,Kb w w'→Kc 101 #[.slice a m cap,.int .i64 d,.int .i64 b] w' (SidePost es d b w'))
    (h0:∀w' v V,PrAt w' v V (sideOf es d 0)→Kc 50 #[v,.int .i64 ((d:Int)+1)] w' fun e w''=>e=.returned (.agg (B R0))∧Below w'.heap.size w' w'')
    (h1:∀w' v V,PrAt w' v V (sideOf es d 1)→Kc 50 #[v,.int .i64 ((d:Int)+1)] w' fun e w''=>e=.returned (.agg (B R1))∧Below w'.heap.size w' w''):
    Kc 50 #[.slice a m cap,.int .i64 d] w fun e w'=>e=.returned (.agg (B (inD R0 R1)))∧Kb w w':=by
  have HP:=hidden hp;have H0:=hidden h0;have H1:=hidden h1;obtain ⟨D,hD⟩:∃D,D=inD R0 R1:=⟨_,rfl⟩;have HF:=hidden (b32_facts D (by rw [hD];exact dig_length _));have HI:Hid (∀w',Kc 100 #[.agg (B R0),.agg (B R1)] w' fun e w''=>e=.returned (.agg (B D))∧Below w'.heap.size w' w''):=fun w'=>by rw [hD];exact refInner_any R0 R1 w' l0 l1 y0 y1
  have hw:IntKind.i64.wrap ((d:Int)+1)=(d:Int)+1:=by rw [IntKind.wrap_i64];omega
  have e0:((m:Int) == 0)=false:=by simp;omega
  have e1:((m:Int) == 1)=false:=by simp;omega
  rw [← hD];clear hD hp h0 h1 l0 l1 y0 y1 hm hd;go_enter Tryz.func50,Tryz.ntmps50
  go_wp2_with (first
    |((with_reducible refine at_ald 4 ?_);refine wpList_al _ rfl _ rfl _ zero_b32 ?_;intro w1 g1 hg1 hl1 B1 b1;have KB:=hidden B1.kp;have c:=b1)
    |(go_at_call 101;have mk:=mk1;refine (HP.out _ _ c).mono ?_;rintro e w4 ⟨v1,V1,rfl,p1,q4⟩;clear mk mk1;have HP1:=hidden p1;clear p1;have cc:=grow_trans c q4;clear c;have c:=cc;clear cc;replace KB:=hidden (KB.out.step q4);have mk2:Hid True:=trivial)
    |(go_at_call 101;refine (HP.out _ _ c).mono ?_;rintro e w2 ⟨v0,V0,rfl,p0,q2⟩;have HP0:=hidden p0;clear p0;have cc:=grow_trans c q2;clear c;have c:=cc;clear cc;replace KB:=hidden (KB.out.step q2))
    |(go_at_call 50;have mk:=mk2;refine (H1.out _ _ _ HP1.out).mono ?_;rintro e w5 ⟨rfl,q5⟩;clear mk mk2;have cc:=grow_trans c q5;clear c;have c:=cc;clear cc;replace KB:=hidden (KB.out.step q5))
    |(go_at_call 50;refine (H0.out _ _ _ HP0.out).mono ?_;rintro e w3 ⟨rfl,q3⟩;have mk1:Hid True:=trivial;have cc:=grow_trans c q3;clear c;have c:=cc;clear cc;replace KB:=hidden (KB.out.step q3))
    |(go_at_call 100;refine (HI.out _).mono ?_;rintro e w6 ⟨rfl,q6⟩;have cc:=grow_trans c q6;clear c;have c:=cc;clear cc;replace KB:=hidden (KB.out.step q6))
    |((with_reducible refine at_st 4 ?_);refine wpList_sto _ rfl _ _ _ rfl g1 _ (B D) rfl rfl KB.out.now HF.out.1 HF.out.2 (B_one _) ?_;intro w7 B7 r7))
  exact bodyPost_ret (v:=.agg (B D)) (results_cell_row rfl _ _ g1 _ _ _ _ rfl B7 Tryz.underlying33 rfl HF.out.1) rfl ⟨rfl,below_row c r7 hg1⟩

def SamE (es:List Ent) (d:Nat):Prop:=∀a∈es,∀b∈es,∀j,j<d→kb a.1 j=kb b.1 j
theorem SamE.side (hd:d<256) (b:Int) (h:SamE es d):SamE (sideOf es d b) (d+1):=by
  intro x hx y hy j hj;unfold sideOf at hx hy;rw [List.mem_filter,beq_iff_eq,kbi_in _ _ hd] at hx hy
  by_cases e:j=d
  · rw [e,hx.2,hy.2]
  · exact h x hx.1 y hy.1 j (by omega)
theorem SamE.few (hk:∀e∈es,Key e.1) (ha:Apart1 es) (h:SamE es 256):es.length≤1:=by
  match es,hk,ha,h with
  | [],_,_,_=>simp
  | e::r,hk,ha,h=>exact Share.few (key:=e.1) hk ha (fun x hx j hj=>h x hx e (by simp) j hj)

theorem refAt_any:∀(n d:Nat) (es:List Ent) (v:Value) (V:Nat→Value) (w:World),d+n=256→es.length≤4096→Apart1 es→SamE es d→(∀e∈es,e.2.length≤1024)→PrAt w v V es→
    Kc 50 #[v,.int .i64 d] w fun e w'=>e=.returned (.agg (B (rt n d es)))∧Kb w w':=by
  have one:∀(n d:Nat) (E:Ent) (a:Option Addr) (cap:Nat) (V:Nat→Value) (w:World),E.2.length≤1024→PrAt w (.slice a 1 cap) V [E]→Kc 50 #[.slice a 1 cap,.int .i64 d] w fun e w'=>e=.returned (.agg (B (rt n d [E])))∧Kb w w':=by
    intro n d E a cap V w hl hv;obtain ⟨a',cap',e,_,hc,hr⟩:=hv;injection e with e1 e2 e3;subst e1;subst e3;obtain ⟨g,off,rfl,hcc⟩:=hc (by simp);have h0:=hcc 0 (by simp);rw [Nat.zero_mul,Nat.add_zero] at h0;obtain ⟨k0,r0⟩:=hr 0 (by simp);rw [rt_one];exact refAt_leaf d g off cap E (V 0) w k0 r0 hl h0
  intro n;induction n with
  | zero=>
    intro d es v V w hd hn ha hs hlen hv;obtain rfl:d=256:=by omega
    have hf:=SamE.few hv.keys ha hs;have hv':=hv;obtain ⟨a,cap,rfl,_⟩:=hv'
    match es,hf,hv,hlen with
    | [],_,_,_=>rw [rt_nil];exact refAt_none (256:Nat) a cap w
    | [E],_,hv,hlen=>exact one 0 256 E a cap V w (hlen E (by simp)) hv
  | succ n ih=>
    intro d es v V w hd hn ha hs hlen hv;have hv':=hv;obtain ⟨a,cap,rfl,_⟩:=hv'
    match es,hn,ha,hs,hlen,hv with
    | [],_,_,_,_,_=>rw [rt_nil];exact refAt_none d a cap w
    | [E],_,_,_,hlen,hv=>exact one (n+1) d E a cap V w (hlen E (by simp)) hv
    | x::y::es,hn,ha,hs,hlen,hv=>
      rw [rt_more n d _ (by simp)];have hi:∀b w' v V,PrAt w' v V (sideOf (x::y::es) d b)→Kc 50 #[v,.int .i64 ((d:Int)+1)] w' fun e w''=>e=.returned (.agg (B (rt n (d+1) (sideOf (x::y::es) d b))))∧Below w'.heap.size w' w'':=by
        intro b w' v V hv;have:=ih (d+1) (sideOf (x::y::es) d b) v V w' (by omega) (Nat.le_trans (List.length_filter_le _ _) hn) (ha.side d b) (hs.side (by omega) b) (fun e he=>hlen e (List.mem_filter.1 he).1) hv;rwa [show ((d+1:Nat):Int)=(d:Int)+1 by omega] at this
      exact refAt_more d a _ cap (x::y::es) _ _ w (by omega) (by simp) (rt_length _ _ _) (rt_length _ _ _) (rt_bytes _ _ _) (rt_bytes _ _ _) (fun w' b hb=>refSide_any _ V (x::y::es) d b w' (hv.grow hb) hn) (hi 0) (hi 1)

end Go.Proofs.YtabiglnmfdpcfaaGreatDoor
