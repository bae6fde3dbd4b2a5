/-
  The sum of points is associative: the identities, and the outer sums. Plain facts.
-/
import Derived.Test.YtcijjmncilciiaaDoorZEcP
namespace Go.Proofs.YtcijjmncilciiaaDoor

theorem id_F (x1 x2 x3 a b y2 y1 y3 xs ys xt yt : Int) (h1 : y1 = y2 + a * (x1 - x2)) (h3 : y3 = y2 + b * (x3 - x2))
    (hxs : xs = a * a - x1 - x2) (hys : ys = a * (x2 - xs) - y2) (hxt : xt = b * b - x2 - x3) (hyt : yt = b * (x2 - xt) - y2) :
    (ys - y3) * (ys - y3) * ((x1 - xt) * (x1 - xt)) - (y1 - yt) * (y1 - yt) * ((xs - x3) * (xs - x3)) - ((xs + x3) - (x1 + xt)) * ((xs - x3) * (xs - x3)) * ((x1 - xt) * (x1 - xt))
      = (-a^4*x1 + a^4*x2 - 2*a^3*b^3 + 4*a^3*b*x2 + 2*a^3*b*x3 - 2*a^3*y2 - 3*a^2*b^2*x1 - a^2*b^2*x2 - 2*a^2*b^2*x3 + 3*a^2*x1^2 + 3*a^2*x1*x2 + 6*a^2*x1*x3 - a^2*x2^2 + 2*a^2*x2*x3 + 2*a^2*x3^2 + 3*a^2 + 2*a*b^3*x1 + 4*a*b^3*x2 - 2*a*b^2*y2 - 6*a*b*x1*x2 - 6*a*b*x2^2 - 6*a*b*x2*x3 + 4*a*x1*y2 + 4*a*x2*y2 + 4*a*x3*y2 - 2*b^4*x2 + 2*b^4*x3 + 4*b^3*y2 + 3*b^2*x1^2 + 5*b^2*x1*x2 + 4*b^2*x1*x3 + b^2*x2^2 + 2*b^2*x2*x3 - 6*b^2*x3^2 + 9*b^2 - 4*b*x2*y2 - 8*b*x3*y2 - 2*x1^3 - 6*x1^2*x2 - 6*x1^2*x3 - 4*x1*x2^2 - 10*x1*x2*x3 - 4*x1*x3^2 - 6*x1 + 2*x2^3 + 4*x2^2*x3 + 4*x2*x3^2 - 12*x2 + 4*x3^3 - 18*x3) * (a * (2 * y2 + a * (x1 - x2)) - (x1 * x1 + x1 * x2 + x2 * x2 - 3)) + (2*a^3*b^3 - 4*a^3*b*x2 - 2*a^3*b*x3 + 3*a^2*b^2*x2 + 3*a^2*b^2*x3 + 2*a^2*b*y2 - 3*a^2*x2^2 - 9*a^2*x2*x3 - 3*a^2*x3^2 - 3*a^2 - 2*a*b^3*x1 - 4*a*b^3*x2 - 4*a*b^2*y2 + 6*a*b*x1*x2 + 6*a*b*x2^2 + 6*a*b*x2*x3 + 4*a*x2*y2 + 8*a*x3*y2 - b^4*x2 + b^4*x3 + 2*b^3*y2 - 6*b^2*x1*x3 + 3*b^2*x2^2 - 3*b^2*x2*x3 - 3*b^2*x3^2 - 9*b^2 - 4*b*x1*y2 - 4*b*x2*y2 - 4*b*x3*y2 + 6*x1*x2*x3 + 6*x1*x3^2 + 6*x1 - 2*x2^3 + 6*x2*x3^2 + 12*x2 + 2*x3^3 + 18*x3) * (b * (2 * y2 + b * (x3 - x2)) - (x3 * x3 + x3 * x2 + x2 * x2 - 3)) := by
  subst h1 h3 hys hyt hxs hxt
  grind

theorem id_G (x1 x2 x3 a b y2 y1 y3 xs ys xt yt : Int) (h1 : y1 = y2 + a * (x1 - x2)) (h3 : y3 = y2 + b * (x3 - x2))
    (hxs : xs = a * a - x1 - x2) (hys : ys = a * (x2 - xs) - y2) (hxt : xt = b * b - x2 - x3) (hyt : yt = b * (x2 - xt) - y2) :
    (x1 - xt) * (ys - y3) * (x3 * ((xs - x3) * (xs - x3)) - ((ys - y3) * (ys - y3) - (xs + x3) * ((xs - x3) * (xs - x3)))) - (xs - x3) * (y1 - yt) * (x1 * ((xs - x3) * (xs - x3)) - ((ys - y3) * (ys - y3) - (xs + x3) * ((xs - x3) * (xs - x3)))) - (xs - x3) * ((xs - x3) * (xs - x3)) * (x1 - xt) * (y3 - y1)
      = (-2*a^5*b^2 + 2*a^5*x1 + a^5*x2 + 3*a^5*x3 - 3*a^4*b*x2 + 3*a^4*b*x3 + 4*a^4*y2 + 4*a^3*b^2*x1 + 5*a^3*b^2*x2 + 3*a^3*b^2*x3 - 4*a^3*x1^2 - 9*a^3*x1*x2 - 7*a^3*x1*x3 - 2*a^3*x2^2 - 8*a^3*x2*x3 - 6*a^3 + a^2*b^3*x2 - a^2*b^3*x3 - 2*a^2*b^2*y2 + a^2*b*x1*x2 - a^2*b*x1*x3 + 4*a^2*b*x2^2 - 6*a^2*b*x2*x3 + 2*a^2*b*x3^2 - 2*a^2*x1*y2 - 6*a^2*x2*y2 + 2*a^2*x3*y2 + 2*a*b^4*x2 - 2*a*b^4*x3 - 4*a*b^3*y2 - 2*a*b^2*x1^2 - 5*a*b^2*x1*x2 - 3*a*b^2*x1*x3 - 2*a*b^2*x2^2 - 6*a*b^2*x2*x3 + 6*a*b^2*x3^2 - 6*a*b^2 + 12*a*b*x3*y2 + 2*a*x1^3 + 8*a*x1^2*x2 + 4*a*x1^2*x3 + 8*a*x1*x2^2 + 10*a*x1*x2*x3 + 6*a*x1 - 2*a*x2^3 - 2*a*x2^2*x3 - 6*a*x2*x3^2 + 18*a*x2 - 4*a*x3^3 + 12*a*x3 + 4*a*y2^2 - b^3*x1*x2 + b^3*x1*x3 - 2*b^3*x2^2 + 2*b^3*x2*x3 + 2*b^2*x1*y2 + 4*b^2*x2*y2 + 2*b*x1^2*x2 - 2*b*x1^2*x3 + 4*b*x1*x2^2 - 4*b*x1*x3^2 + 2*b*x2^2*x3 - 2*b*x2*x3^2 + 6*b*x2 - 6*b*x3 - 2*x1^2*y2 - 4*x1*x2*y2 - 4*x1*x3*y2 - 2*x2*x3*y2 - 6*y2) * (a * (2 * y2 + a * (x1 - x2)) - (x1 * x1 + x1 * x2 + x2 * x2 - 3)) + (2*a^5*b^2 - 3*a^5*x2 - 3*a^5*x3 + 3*a^4*b*x2 - 3*a^4*b*x3 - 2*a^3*b^2*x1 - 5*a^3*b^2*x2 - 5*a^3*b^2*x3 - 4*a^3*b*y2 + 3*a^3*x1*x2 + 3*a^3*x1*x3 + 8*a^3*x2^2 + 14*a^3*x2*x3 + 2*a^3*x3^2 + 6*a^3 - a^2*b^3*x2 + a^2*b^3*x3 + 6*a^2*b^2*y2 - 3*a^2*b*x1*x2 + 3*a^2*b*x1*x3 - 2*a^2*b*x2^2 + 4*a^2*b*x2*x3 - 2*a^2*b*x3^2 - 8*a^2*x2*y2 - 10*a^2*x3*y2 + a*b^2*x1*x2 + 5*a*b^2*x1*x3 - 4*a*b^2*x2^2 + 10*a*b^2*x2*x3 + 6*a*b^2 + 4*a*b*x1*y2 + 8*a*b*x2*y2 - 2*a*x1*x2^2 - 8*a*x1*x2*x3 - 2*a*x1*x3^2 - 6*a*x1 + 2*a*x2^3 - 4*a*x2^2*x3 - 4*a*x2*x3^2 - 18*a*x2 - 12*a*x3 + b^3*x1*x2 - b^3*x1*x3 + 2*b^3*x2*x3 - 2*b^3*x3^2 - 2*b^2*x1*y2 + 2*b^2*x2*y2 - 6*b^2*x3*y2 - 2*b*x1*x2^2 - 2*b*x1*x2*x3 + 4*b*x1*x3^2 - 4*b*x2^2*x3 + 2*b*x2*x3^2 - 6*b*x2 + 2*b*x3^3 + 6*b*x3 - 4*b*y2^2 + 2*x1*x2*y2 + 4*x1*x3*y2 + 4*x2*x3*y2 + 2*x3^2*y2 + 6*y2) * (b * (2 * y2 + b * (x3 - x2)) - (x3 * x3 + x3 * x2 + x2 * x2 - 3)) := by
  subst h1 h3 hys hyt hxs hxt
  grind

def kH_0_0 (x1 x2 a b y2 : Int) : Int := -6*a^7 + 30*a^6*b - 6*a^5*b^2 - 84*a^5*x1 + 36*a^5*x2 - 42*a^4*b^3 - 12*a^4*b*x1 - 36*a^4*b*x2 - 182*a^4*y2 + 60*a^3*b^2*x1 + 12*a^3*b^2*x2 + 246*a^3*b*y2 + 90*a^3*x1^2 + 156*a^3*x1*x2
def kH_0_1 (x1 x2 a b y2 : Int) : Int := -21*a^3*x2^2 - 27*a^3 - 12*a^2*b^3*x1 + 84*a^2*b^3*x2 - 210*a^2*b^2*y2 - 18*a^2*b*x1^2 - 60*a^2*b*x1*x2 - 75*a^2*b*x2^2 + 27*a^2*b - 10*a^2*x1*y2 + 226*a^2*x2*y2 + 18*a*b^3*y2 - 54*a*b^2*x1^2 - 108*a*b^2*x1*x2
def kH_0_2 (x1 x2 a b y2 : Int) : Int := -27*a*b^2*x2^2 + 27*a*b^2 + 60*a*b*x1*y2 + 12*a*b*x2*y2 - 48*a*y2^2 + 54*b^3*x1^2 + 108*b^3*x1*x2 + 27*b^3*x2^2 - 27*b^3 - 18*b^2*x1*y2 + 18*b^2*x2*y2
def kH_1_0 (x1 x2 a b y2 : Int) : Int := -27*a^9 + 27*a^8*b + 27*a^7*b^2 + 9*a^7*x1 + 126*a^7*x2 - 27*a^6*b^3 + 63*a^6*b*x1 - 198*a^6*b*x2 - 174*a^6*y2 - 9*a^5*b^2*x1 - 126*a^5*b^2*x2 + 312*a^5*b*y2 + 63*a^5*x1^2 + 36*a^5*x1*x2
def kH_1_1 (x1 x2 a b y2 : Int) : Int := -180*a^5 - 63*a^4*b^3*x1 + 198*a^4*b^3*x2 + 114*a^4*b^2*y2 - 207*a^4*b*x1^2 + 36*a^4*b*x1*x2 + 252*a^4*b + 12*a^4*x1*y2 + 180*a^4*x2*y2 - 300*a^3*b^3*y2 - 99*a^3*b^2*x1^2 + 36*a^3*b^2*x1*x2 + 144*a^3*b^2 - 540*a^3*b*x1*y2
def kH_1_2 (x1 x2 a b y2 : Int) : Int := -24*a^3*b*x2*y2 - 45*a^3*x1^3 - 162*a^3*x1^2*x2 - 108*a^3*x1 + 72*a^3*x2 - 268*a^3*y2^2 + 171*a^2*b^3*x1^2 + 36*a^2*b^3*x1*x2 - 288*a^2*b^3 + 228*a^2*b^2*x1*y2 - 228*a^2*b^2*x2*y2 + 117*a^2*b*x1^3 + 162*a^2*b*x1^2*x2 - 108*a^2*b*x1
def kH_1_3 (x1 x2 a b y2 : Int) : Int := 72*a^2*b*x2 + 60*a^2*b*y2^2 + 162*a^2*x1^2*y2 - 84*a^2*x1*x2*y2 - 240*a^2*y2 + 36*a*b^3*x1*y2 + 288*a*b^3*x2*y2 + 81*a*b^2*x1^3 + 162*a*b^2*x1^2*x2 + 36*a*b*x1^2*y2 + 360*a*b*x1*x2*y2 - 72*a*b*y2 + 84*a*x1*y2^2 + 240*a*x2*y2^2
def kH_1_4 (x1 x2 a b y2 : Int) : Int := -81*b^3*x1^3 - 162*b^3*x1^2*x2 - 72*b^3*y2^2 - 54*b^2*x1^2*y2 - 108*b^2*x1*x2*y2 - 108*b*x1*y2^2 - 72*y2^3 + 0 * (x1 + x2 + a + b + y2)
def kH_2_0 (x1 x2 a b y2 : Int) : Int := 112*a^2*y2^2 + 0 * (x1 + x2 + a + b + y2)

set_option maxHeartbeats 4000000 in
set_option maxRecDepth 4000 in
theorem id_H (x1 x2 a b y2 y1 xs ys xt yt : Int) (h1 : y1 = y2 + a * (x1 - x2))
    (hxs : xs = a * a - x1 - x2) (hys : ys = a * (x2 - xs) - y2) (hxt : xt = b * b - x2 - xs) (hyt : yt = b * (x2 - xt) - y2) :
    9 * ((3 * xs * xs - 3) * (3 * xs * xs - 3) * ((x1 - xt) * (x1 - xt)) - (y1 - yt) * (y1 - yt) * ((2 * ys) * (2 * ys)) - ((xs + xs) - (x1 + xt)) * ((2 * ys) * (2 * ys)) * ((x1 - xt) * (x1 - xt)))
      = (kH_0_0 x1 x2 a b y2 + kH_0_1 x1 x2 a b y2 + kH_0_2 x1 x2 a b y2) * ((x2 - x1) * (ys - y2 - b * (xs - x2)) - (a + b) * (a * (2 * y2 + a * (x1 - x2)) - (x1 * x1 + x1 * x2 + x2 * x2 - 3))) + (kH_1_0 x1 x2 a b y2 + kH_1_1 x1 x2 a b y2 + kH_1_2 x1 x2 a b y2 + kH_1_3 x1 x2 a b y2 + kH_1_4 x1 x2 a b y2) * (-(ys - y2 - b * (xs - x2))) + (kH_2_0 x1 x2 a b y2) * (a * (2 * y2 + a * (x1 - x2)) - (x1 * x1 + x1 * x2 + x2 * x2 - 3)) := by
  unfold kH_0_0 kH_0_1 kH_0_2 kH_1_0 kH_1_1 kH_1_2 kH_1_3 kH_1_4 kH_2_0
  subst h1 hys hyt hxs hxt
  grind

def kK_0_0 (x1 x2 a b y2 : Int) : Int := 45*a^9 - 81*a^8*b + 60*a^7*b^2 + 324*a^7*x1 - 132*a^7*x2 - 324*a^6*b*x1 + 120*a^6*b*x2 - 186*a^6*y2 + 300*a^5*b^2*x1 - 96*a^5*b^2*x2 + 10*a^5*b*y2 - 1242*a^5*x1^2 - 1248*a^5*x1*x2 + 33*a^5*x2^2
def kK_0_1 (x1 x2 a b y2 : Int) : Int := 435*a^5 + 144*a^4*b^2*y2 + 1458*a^4*b*x1^2 + 1284*a^4*b*x1*x2 + 165*a^4*b*x2^2 - 297*a^4*b - 798*a^4*x1*y2 - 810*a^4*x2*y2 - 684*a^3*b^2*x1^2 - 960*a^3*b^2*x1*x2 - 102*a^3*b^2*x2^2 + 54*a^3*b^2 + 884*a^3*b*x1*y2 + 448*a^3*b*x2*y2
def kK_0_2 (x1 x2 a b y2 : Int) : Int := 1332*a^3*x1^3 + 2892*a^3*x1^2*x2 + 1560*a^3*x1*x2^2 - 624*a^3*x1 + 156*a^3*x2^3 - 924*a^3*x2 - 1072*a^3*y2^2 - 36*a^2*b^2*x1*y2 - 288*a^2*b^2*x2*y2 - 1620*a^2*b*x1^3 - 3024*a^2*b*x1^2*x2 - 1188*a^2*b*x1*x2^2 + 540*a^2*b*x1 - 162*a^2*b*x2^3
def kK_0_3 (x1 x2 a b y2 : Int) : Int := 594*a^2*b*x2 + 540*a^2*b*y2^2 + 1278*a^2*x1^2*y2 - 144*a^2*x1*x2*y2 + 486*a^2*x2^2*y2 + 54*a^2*y2 + 324*a*b^2*x1^3 + 864*a*b^2*x1^2*x2 + 486*a*b^2*x1*x2^2 - 54*a*b^2*x1 + 108*a*b^2*x2^3 - 108*a*b^2*x2 - 36*a*b^2*y2^2 - 702*a*b*x1^2*y2
def kK_0_4 (x1 x2 a b y2 : Int) : Int := -720*a*b*x1*x2*y2 - 252*a*b*x2^2*y2 - 108*a*b*y2 - 459*a*x1^4 - 1512*a*x1^3*x2 - 1593*a*x1^2*x2^2 + 189*a*x1^2 - 864*a*x1*x2^3 + 432*a*x1*x2 + 24*a*x1*y2^2 - 189*a*x2^4 + 270*a*x2^2 - 456*a*x2*y2^2 - 81*a
def kK_0_5 (x1 x2 a b y2 : Int) : Int := -108*b^2*x1^2*y2 - 216*b^2*x1*x2*y2 - 54*b^2*x2^2*y2 + 54*b^2*y2 + 567*b*x1^4 + 1620*b*x1^3*x2 + 1215*b*x1^2*x2^2 - 243*b*x1^2 + 486*b*x1*x2^3 - 486*b*x1*x2 + 144*b*x1*y2^2 + 81*b*x2^4 - 162*b*x2^2 + 72*b*x2*y2^2 + 0 * (x1 + x2 + a + b + y2)
def kK_0_6 (x1 x2 a b y2 : Int) : Int := 81*b - 486*x1^3*y2 + 594*x1^2*x2*y2 + 432*x1*x2^2*y2 + 108*x1*y2 + 108*x2^3*y2 - 108*x2*y2 + 0 * (x1 + x2 + a + b + y2)
def kK_1_0 (x1 x2 a b y2 : Int) : Int := 9*a^11 + 9*a^10*b - 18*a^9*b^2 + 45*a^9*x1 - 126*a^9*x2 - 351*a^8*b*x1 + 216*a^8*b*x2 + 324*a^8*y2 + 288*a^7*b^2*x1 - 72*a^7*b^2*x2 - 684*a^7*b*y2 - 270*a^7*x1^2 - 108*a^7*x1*x2 + 540*a^7
def kK_1_1 (x1 x2 a b y2 : Int) : Int := 390*a^6*b^2*y2 + 1242*a^6*b*x1^2 + 540*a^6*b*x1*x2 - 972*a^6*b + 1074*a^6*x1*y2 - 1608*a^6*x2*y2 - 684*a^5*b^2*x1^2 - 792*a^5*b^2*x1*x2 + 504*a^5*b^2 + 132*a^5*b*x1*y2 + 1512*a^5*b*x2*y2 + 450*a^5*x1^3 + 1080*a^5*x1^2*x2 - 108*a^5*x1
def kK_1_2 (x1 x2 a b y2 : Int) : Int := -936*a^5*x2 + 1452*a^5*y2^2 + 558*a^4*b^2*x1*y2 - 924*a^4*b^2*x2*y2 - 1710*a^4*b*x1^3 - 2700*a^4*b*x1^2*x2 + 972*a^4*b*x1 + 1008*a^4*b*x2 - 868*a^4*b*y2^2 - 1206*a^4*x1^2*y2 - 1548*a^4*x1*x2*y2 + 2616*a^4*y2 + 576*a^3*b^2*x1^3 + 1512*a^3*b^2*x1^2*x2
def kK_1_3 (x1 x2 a b y2 : Int) : Int := 432*a^3*b^2*x1 - 576*a^3*b^2*x2 + 720*a^3*b^2*y2^2 + 684*a^3*b*x1^2*y2 - 624*a^3*b*x1*x2*y2 - 1248*a^3*b*y2 - 315*a^3*x1^4 - 1332*a^3*x1^3*x2 - 1404*a^3*x1^2 + 288*a^3*x1*x2 + 1516*a^3*x1*y2^2 - 2452*a^3*x2*y2^2 + 576*a^3 - 918*a^2*b^2*x1^2*y2
def kK_1_4 (x1 x2 a b y2 : Int) : Int := -216*a^2*b^2*x1*x2*y2 + 864*a^2*b^2*y2 + 1053*a^2*b*x1^4 + 2916*a^2*b*x1^3*x2 + 972*a^2*b*x1^2 - 1296*a^2*b*x1*x2 + 36*a^2*b*x1*y2^2 + 756*a^2*b*x2*y2^2 - 810*a^2*x1^3*y2 + 3456*a^2*x1^2*x2*y2 + 216*a^2*x1*y2 - 1296*a^2*x2*y2 + 528*a^2*y2^3 - 162*a*b^2*x1^4
def kK_1_5 (x1 x2 a b y2 : Int) : Int := -648*a*b^2*x1^3*x2 - 648*a*b^2*x1^2 - 432*a*b^2*x2*y2^2 - 324*a*b*x1^3*y2 - 216*a*b*x1^2*x2*y2 + 864*a*b*x1*y2 + 81*a*x1^5 + 486*a*x1^4*x2 + 972*a*x1^3 + 648*a*x1^2*x2 - 1080*a*x1^2*y2^2 + 396*a*x1*x2*y2^2 + 792*a*y2^2 + 162*b^2*x1^3*y2
def kK_1_6 (x1 x2 a b y2 : Int) : Int := 324*b^2*x1^2*x2*y2 + 72*b^2*y2^3 - 243*b*x1^5 - 972*b*x1^4*x2 - 972*b*x1^3 - 216*b*x1^2*y2^2 - 108*b*x1*x2*y2^2 + 810*x1^4*y2 - 972*x1^3*x2*y2 - 1296*x1^2*y2 - 72*x1*y2^3 - 144*x2*y2^3 + 0 * (x1 + x2 + a + b + y2)
def kK_2_0 (x1 x2 a b y2 : Int) : Int := -1128*a^7*y2 - 576*a^5*x1*y2 + 1176*a^5*x2*y2 - 2608*a^4*y2^2 + 3240*a^3*x1^2*y2 + 816*a^3*x1*x2*y2 - 132*a^3*x2^2*y2 - 492*a^3*y2 - 252*a^2*x1*y2^2 + 468*a^2*x2*y2^2 - 1728*a*x1^3*y2 - 1512*a*x1^2*x2*y2 - 648*a*x1*x2^2*y2 + 216*a*x1*y2 + 0 * (x1 + x2 + a + b + y2)
def kK_2_1 (x1 x2 a b y2 : Int) : Int := -108*a*x2^3*y2 + 108*a*x2*y2 - 456*a*y2^3 + 972*x1^2*y2^2 + 540*x1*x2*y2^2 + 108*x2^2*y2^2 - 108*y2^2 + 0 * (x1 + x2 + a + b + y2)

set_option maxHeartbeats 4000000 in
set_option maxRecDepth 4000 in
theorem id_K (x1 x2 a b y2 y1 xs ys xt yt : Int) (h1 : y1 = y2 + a * (x1 - x2))
    (hxs : xs = a * a - x1 - x2) (hys : ys = a * (x2 - xs) - y2) (hxt : xt = b * b - x2 - xs) (hyt : yt = b * (x2 - xt) - y2) :
    9 * ((x1 - xt) * (3 * xs * xs - 3) * (xs * ((2 * ys) * (2 * ys)) - ((3 * xs * xs - 3) * (3 * xs * xs - 3) - (xs + xs) * ((2 * ys) * (2 * ys)))) - (2 * ys) * (y1 - yt) * (x1 * ((2 * ys) * (2 * ys)) - ((3 * xs * xs - 3) * (3 * xs * xs - 3) - (xs + xs) * ((2 * ys) * (2 * ys)))) - (2 * ys) * ((2 * ys) * (2 * ys)) * (x1 - xt) * (ys - y1))
      = (kK_0_0 x1 x2 a b y2 + kK_0_1 x1 x2 a b y2 + kK_0_2 x1 x2 a b y2 + kK_0_3 x1 x2 a b y2 + kK_0_4 x1 x2 a b y2 + kK_0_5 x1 x2 a b y2 + kK_0_6 x1 x2 a b y2) * ((x2 - x1) * (ys - y2 - b * (xs - x2)) - (a + b) * (a * (2 * y2 + a * (x1 - x2)) - (x1 * x1 + x1 * x2 + x2 * x2 - 3))) + (kK_1_0 x1 x2 a b y2 + kK_1_1 x1 x2 a b y2 + kK_1_2 x1 x2 a b y2 + kK_1_3 x1 x2 a b y2 + kK_1_4 x1 x2 a b y2 + kK_1_5 x1 x2 a b y2 + kK_1_6 x1 x2 a b y2) * (-(ys - y2 - b * (xs - x2))) + (kK_2_0 x1 x2 a b y2 + kK_2_1 x1 x2 a b y2) * (a * (2 * y2 + a * (x1 - x2)) - (x1 * x1 + x1 * x2 + x2 * x2 - 3)) := by
  unfold kK_0_0 kK_0_1 kK_0_2 kK_0_3 kK_0_4 kK_0_5 kK_0_6 kK_1_0 kK_1_1 kK_1_2 kK_1_3 kK_1_4 kK_1_5 kK_1_6 kK_2_0 kK_2_1
  subst h1 hys hyt hxs hxt
  grind

/-- Two outer sums are alike where these two are 0. -/
theorem outer {c d u c' e v s s' xA yA xB yB : Int} (hc : Cg (c * d) u) (hc' : Cg (c' * e) v) (hd : ¬ D d) (he : ¬ D e)
    (hF : D (u * u * (e * e) - v * v * (d * d) - (s - s') * (d * d) * (e * e)))
    (hG : D (e * u * (xA * (d * d) - (u * u - s * (d * d))) - d * v * (xB * (d * d) - (u * u - s * (d * d))) - d * (d * d) * e * (yA - yB))) :
    Cg (c * c - s) (c' * c' - s') ∧ Cg (c * (xA - (c * c - s)) - yA) (c' * (xB - (c' * c' - s')) - yB) := by
  have hX : Cg (c * c - s) (c' * c' - s') := by
    have h1 : Cg (c * d * (c * d) * (e * e) - c' * e * (c' * e) * (d * d) - (s - s') * (d * d) * (e * e)) (u * u * (e * e) - v * v * (d * d) - (s - s') * (d * d) * (e * e)) :=
      (((hc.mul hc).mul (Cg.refl _)).sub ((hc'.mul hc').mul (Cg.refl _))).sub (Cg.refl _)
    have h2 := h1.d hF
    have e1 : c * d * (c * d) * (e * e) - c' * e * (c' * e) * (d * d) - (s - s') * (d * d) * (e * e) = (c * c - s - (c' * c' - s')) * (d * d * (e * e)) := by grind
    rw [e1] at h2
    exact h2.prod.elim id (fun h => absurd h (nd_mul (nd_mul hd hd) (nd_mul he he)))
  refine ⟨hX, ?_⟩
  have hY : Cg (c * (xA - (c * c - s)) - yA) (c' * (xB - (c * c - s)) - yB) := by
    have h1 : Cg (e * (c * d) * (xA * (d * d) - (c * d * (c * d) - s * (d * d))) - d * (c' * e) * (xB * (d * d) - (c * d * (c * d) - s * (d * d))) - d * (d * d) * e * (yA - yB))
        (e * u * (xA * (d * d) - (u * u - s * (d * d))) - d * v * (xB * (d * d) - (u * u - s * (d * d))) - d * (d * d) * e * (yA - yB)) :=
      ((((Cg.refl e).mul hc).mul ((Cg.refl _).sub ((hc.mul hc).sub (Cg.refl _)))).sub (((Cg.refl d).mul hc').mul ((Cg.refl _).sub ((hc.mul hc).sub (Cg.refl _))))).sub (Cg.refl _)
    have h2 := h1.d hG
    have e1 : e * (c * d) * (xA * (d * d) - (c * d * (c * d) - s * (d * d))) - d * (c' * e) * (xB * (d * d) - (c * d * (c * d) - s * (d * d))) - d * (d * d) * e * (yA - yB)
        = (c * (xA - (c * c - s)) - yA - (c' * (xB - (c * c - s)) - yB)) * (d * (d * d) * e) := by grind
    rw [e1] at h2
    exact h2.prod.elim id (fun h => absurd h (nd_mul (nd_mul hd (nd_mul hd hd)) he))
  exact hY.trans (((Cg.refl c').mul ((Cg.refl xB).sub hX)).sub (Cg.refl yB))

end Go.Proofs.YtcijjmncilciiaaDoor
